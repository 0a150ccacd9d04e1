/- GK GL GN GO GP -/
import Derived.Test.YtnfhpdbbfejioaaGreatDoorJ08
set_option linter.unusedVariables false
set_option linter.unusedSimpArgs false
set_option maxRecDepth 100000
set_option maxHeartbeats 16000000
namespace Go.Proofs.YtnfhpdbbfejioaaGreatDoor
open Go Go.RowKit
variable {b P d B i c g bx bl:Nat}{f nm j h:By}{s:aa}{a k n:Int}{e:Ending}{w0 w w1 w':jW}{r r1:Rs}{v vl vr:jU}{X:Cx}{p:jO}{l xs:Tr}
theorem fP{α b:Type}{x:ae α}{f:α->ae b}(h:∀out,au x f s≠.error (99,out)):(∀out,x s≠.error (99,out))/\∀a c,x s= .ok (a,c)->∀out,f a c≠.error (99,out):=by
 refine⟨λout e=>h out ?_,λa c e out d=>h out ?_⟩
 ·unfold au;rw[e]
 ·unfold au;rw[e];exact d
theorem ft{α b:Type}{x:ae α}{f:α->ae b}{s1:aa}{a:α}(h:x s= .ok (a,s1)):au x f s=f a s1:=by unfold au;rw[h]
theorem gS{α a:Type}{x:ae α}{f:α->ae a}{e:Int×List Int}(h:x s= .error e):au x f s= .error e:=by unfold au;rw[h]
theorem St.newX{a:jU}(h:St w0 P a w r d)(c:w.heap.size<=b):¬Xs P r b:=by
 intro e;rcases e with rfl|e|e
 ·have:=h.ltP;omega
 ·obtain⟨p,f,rfl⟩:=aT.1 e;obtain⟨j,g⟩:=a7 f;obtain⟨l,_,_,_,i⟩:=h.arr j p.1 p.2 g;have:=(aC.1 i).1;omega
 ·have:=(h.out.lt b e).2;omega
theorem St.setL{a:jU}(h:St w0 P a w r d)(c:¬Xs P r B)(f:w0.heap.size<=B):St w0 P a (w.setCell (jB B i) v) r d:=by
 have g:∀b,b≠B->(w.setCell (jB B i) v).heap[b]?=w.heap[b]?:=λb j=>aG _ _ _ _ j;have m:(w.setCell (jB B i) v).heap.size=w.heap.size:=by simp
 refine⟨h.lt,by rw[m];exact h.le,λb h1 h2=>?_,?_,h.inp,fX h.out (λk hk=>g k (λe=>c (.inr (.inr (e▸hk))))),h.apart,h.alen,λk b n hk=>?_,h.lo,h.nd,h.few,h.told,h.deep⟩
 ·rw[g b (by omega)];exact h.kp b h1 h2
 ·rw[g P (λe=>c (.inl e.symm))];exact h.pb
 ·obtain⟨l,o,p,q,s⟩:=h.arr k b n hk;refine⟨l,o,p,q,?_⟩;rw[g b (λe=>c (.inr (.inl (e▸aT.2 ⟨(b,n),aM hk,rfl⟩))))];exact s
theorem Fz.setL{E:Nat->Prop}(h:Fz P E w r w1 r1)(a:w.heap.size<=B):Fz P E w r (w1.setCell (jB B i) v) r1:=
 ⟨h.os,h.tape,h.output,by simp;exact h.size,λb c d e=>by rw[aG _ _ _ _ (by show b≠B;omega)];exact h.blk b c d e,h.pre,h.new⟩
theorem EP.after{a:Rs}{x:Except (Int×List Int) (Vl×aa)}(b:Fz X.P iL w r w1 a)(h:EP X w1 a d x e w'):EP X w r d x e w':=by
 obtain⟨c,h1,h2,f⟩:=h;exact⟨c,h1,b.trans h2,f⟩
theorem vK(h:St X.w0 X.P X.fv w r d):EP X w r d (.error (k,r.s.out)) (kz k) w:=⟨r,h,Fz.refl _ _ _ _,.inr ⟨k,_,rfl,rfl,[],rfl,λz a=>by cases a⟩⟩
def nS(X:Cx):Prop:=∃ds,X.w0.heap[X.P]?=some (.cells ds 60)
theorem lx{o:Obj}(a:az w w')(h:w.heap[b]?=some o):w'.heap[b]?=some o:=by
 rw[a.block b (aC.1 h).1];exact h
abbrev R0:Obj:=jC #[jV 0,jS] 248
theorem jH{a:Func}{p:Tmp}(h:a.results=#[.cell p 248])(b:Array Value)(w:jW)(g:Nat)(c d:jU)(e:b.getD p undef=jP g)(f:w.heap[g]?=some (jC #[c,d] 248)):
  (results a b).run Tryz.prog w= .ok (.agg #[c,d]) w:=by
 have h1:(loadVar 248 (jA g)).run Tryz.prog w= .ok (.agg #[c,d]) w:=cm w g 248 248 _ (0,0) _ f Tryz.underlying248 rfl (by kernel_rfl);rw[gC h,e];simp[asAddr];exact h1
theorem Ow{a b x z:jU}(h:w.heap[B]?=some (jC #[a,b] 248)):((w.setCell (jA B) x).setCell (jB B 1) z).heap[B]?=some (jC #[x,z] 248):=aH _ _ _ _ _ _ (aH _ _ _ _ _ _ h)
theorem fZ{a:Rs}(b:St X.w0 X.P X.fv w r d)(c:Fz X.P iL (w.alloc R0) r w1 a):w1.heap[w.heap.size]?=some R0/\¬Xs X.P a w.heap.size:=by
 have f:=b.newX (aD w.heap.size);refine⟨by rw[c.blk w.heap.size (by simp) f (λe=>e)];exact heap_alloc_last _ _,λh=>?_⟩;have:=c.new _ h f;simp at this;omega
theorem nT{A:Obj}(a:Fz X.P iL (w.alloc A) r w1 r1):Fz X.P iL w r w1 r1:=(Fz.below ((aJ _ _).alloc (aD _) A)).trans a
theorem j_{a:Rs}{y:Vl}{l:Nat}(b:St X.w0 X.P X.fv w r d)(h1:St X.w0 X.P X.fv w1 a d)(e:Fz X.P iL (w.alloc R0) r w1 a)(f:pA a.ab y.2 (jL p l c)):
  ((w1.setCell (jA w.heap.size) (jV y.1)).setCell (jB w.heap.size 1) (jL p l c)).heap[w.heap.size]?=some (jC #[jV y.1,jL p l c] 248)/\EP X w r d (.ok (y,a.s)) (jR (uF y.1 (jL p l c))) ((w1.setCell (jA w.heap.size) (jV y.1)).setCell (jB w.heap.size 1) (jL p l c)):=by
 obtain⟨h2,g⟩:=fZ b e;refine⟨Ow h2,a,(h1.setL g b.le).setL g b.le,?_,.inl ⟨y,p,l,c,rfl,rfl,f⟩⟩;exact((nT e).setL (aD _)).setL (aD _)
theorem kH{a:Rs}{out:List Int}(h1:St X.w0 X.P X.fv w1 a d)(b:Fz X.P iL (w.alloc R0) r w1 a)(c:yf a out k e):EP X w r d (.error (k,out)) e w1:=⟨a,h1,nT b,.inr ⟨k,out,rfl,c⟩⟩
theorem Nz(fs:By->Option eR)(g d:Nat)(o:Own)(a n:Int)(nm b:By)(l r xs:Tr):eM fs (g+1) d o (nd 1 a n nm b l r xs)=ar (n,none):=by rw[ij];simp
theorem Jd(fs:By->Option eR)(g d:Nat)(o:Own)(a n:Int)(nm b:By)(l r xs:Tr):eM fs (g+1) d o (nd 2 a n nm b l r xs)=ar (iP o nm):=by rw[ij];simp
theorem NB(fs:By->Option eR)(g d:Nat)(o:Own)(a n:Int)(nm b:By)(l r xs:Tr):eM fs (g+1) d o (nd 6 a n nm b l r xs)=au (eM fs g d o l) λx=>ai x.1:=by rw[ij];simp
theorem NC(fs:By->Option eR)(g d:Nat)(o:Own)(a n:Int)(nm b:By)(l r xs:Tr):eM fs (g+1) d o (nd 7 a n nm b l r xs)=au (eM fs g d o l) λx=>au (ak x.2) λn=>ar (n,none):=by rw[ij];simp
theorem NE(fs:By->Option eR)(g d:Nat)(o:Own)(a n:Int)(nm b:By)(l r xs:Tr):eM fs (g+1) d o (nd 9 a n nm b l r xs)=au ah λn=>ar (n,none):=by rw[ij];simp
theorem go_num(f:nS X){r:Tr}(k:mA X.w0 bx 1 a n nm j):mh X (g+1) (nd 1 a n nm j l r xs) (.func (.func 200) #[] #[ptr bx]):=by
 intro w q d t m o u v x;rw[Nz];obtain⟨b,vl,vr,z,A,B⟩:=k;have h1:=u.old A f (by decide);have h2:=u.old B f (by decide);have C:=jc 0 h1;have D:=jc 2 h2;have E:=jI u;have F:bx<w.heap.size:=(aC.1 h1).1;have H:b<w.heap.size:=(aC.1 h2).1;refine⟨200,_,rfl,FX,?_⟩;show aA 200 #[.map (some t),ptr bx] w _;generalize I:EP X w q d (ar (n,none) q.s)=G;have J:=jI I;clear u v x A B h1 h2 I;go_enter Tryz.func200,Tryz.ntmps200
 go_wp2_with(go_at_call 196;refine(gu _ _).mono ?_;rintro e w1 ⟨rfl,A⟩;have K:=λb o h=>A.cell (p:=(jB b o)) h;have L:=λb o h=>A.frozen (p:=(jB b o)) h)
 obtain⟨M,N⟩:=j_ (y:=(n,none)) (p:=none) (l:=0) (c:=0) E ((E.below ((aJ _ _).alloc (aD _) R0)).below A) (Fz.below A) rfl;exact bodyPost_ret (jH Tryz.results200 _ _ w.heap.size _ _ rfl M) rfl (by rw[<-J.out];exact N)
theorem Mz:Tryz.prog.underlying 71=some (.map 9 248):=by kernel_rfl
theorem Kc(w:jW):(zeroValue 248).run Tryz.prog w= .ok (uF 0 jS) w:=by kernel_rfl
theorem pA.form{a:List (Nat×Nat)}{q:Option Nat}(h:pA a q v):∃p l c,v=jL p l c:=by
 cases q with
 |none=>exact⟨_,_,_,h⟩
 |some i=>obtain⟨b,n,_,h2⟩:=h;exact⟨_,_,_,h2⟩
theorem xI{a n:Nat}{b:List (Nat×Nat)}{o:Own}(h:jw w a n b o)(nm:By)(d:nm.length<=1000000):∃p l c,(Instr.lookup 71 (.map (some a)) (jT ⟨nm.toArray⟩) false).run Tryz.prog w= .ok (uF (iP o nm).1 (jL p l c)) w/\pA b (iP o nm).2 (jL p l c):=by
 obtain⟨f,h1,h2⟩:=h;obtain⟨q,e,g⟩:=h2 nm;obtain⟨p,l,c,rfl⟩:=g.form;have:=h1.look Mz (Kc w) ⟨nm.toArray⟩ (by simpa[ByteArray.size] using d);refine⟨p,l,c,?_,g⟩;rw[this];have i:(⟨nm.toArray⟩:ByteArray).data.toList=nm:=by simp
 rw[i,e]
theorem go_name(e:nS X){r:Tr}(j:mA X.w0 bx 2 a n nm h)(k:nm.length<=1000000):mh X (g+1) (nd 2 a n nm h l r xs) (.func (.func 189) #[] #[ptr bx]):=by
 intro w q d t m o u v x;rw[Jd];obtain⟨b,vl,vr,z,A,B⟩:=j;have h1:=u.old A e (by decide);have h2:=u.old B e (by decide);have C:=jc 0 h1;have D:=jc 3 h2;have E:=jI u;have F:bx<w.heap.size:=(aC.1 h1).1;have H:b<w.heap.size:=(aC.1 h2).1;obtain⟨f,I,J⟩:=v;obtain⟨p,K,c,L,M⟩:=xI ⟨f,I.kept (w':=w.alloc R0) (ed I.lt),J⟩ nm k;obtain⟨y,N⟩:=aB (iP o nm);have O:Hid (pA q.ab y.2 (jL p K c)):=by rw[N];exact M
 have P:=jI N;rw[<-N]at L;refine⟨189,_,rfl,FQ,?_⟩;show aA 189 #[.map (some t),ptr bx] w _;generalize Q:EP X w q d (ar (iP o nm) q.s)=G;have S:=jI Q;obtain⟨T,U⟩:∃T:ByteArray,T=⟨nm.toArray⟩:=⟨_,rfl⟩;have V:w.cell? (jB b 3)=some (jT T):=by rw[D,U];rfl
 rw[<-U]at L;clear u x A B h1 h2 Q I J M N D U;go_enter Tryz.func189,Tryz.ntmps189;go_wp2;refine bodyPost_ret (jH Tryz.results189 _ _ w.heap.size _ _ rfl (heap_alloc_last _ _)) rfl ?_
 have W:az w (w.alloc (jC #[jV y.1,jL p K c] 248)):=(aJ _ _).alloc (aD _) _;rw[<-S.out];exact⟨q,E.below W,Fz.below W,.inl ⟨y,p,K,c,by rw[P.out];rfl,rfl,O⟩⟩
theorem go_input(b:nS X){f:Nat}{r:Tr}(j:X.w0.heap[f]?=some (jC #[ptr X.P] 57)):mh X (g+1) (nd 9 a n nm h l r xs) (.func (.func 198) #[] #[ptr f]):=by
 intro w k d q m o t u v;rw[NE];have h1:=t.old j b (by decide);have x:=jc 0 h1;have A:=jI t;have B:f<w.heap.size:=(aC.1 h1).1;refine⟨198,_,rfl,FV,?_⟩;show aA 198 #[.map (some q),ptr f] w _;generalize C:EP X w k d (au ah (λn=>ar (n,none)) k.s)=G;have D:=jI C;clear t u v j h1 C;go_enter Tryz.func198,Tryz.ntmps198
 go_wp2_with(go_at_call 199;fail)
 refine(tP X _ k d (A.below ((aJ _ _).alloc (aD _) R0))).mono ?_;obtain⟨z,E⟩:=aB (k.s.inp.headD 0);have F:=jI E;rintro e w1 ⟨H,I,h1,J⟩;rw[<-E]at I;subst I;clear E;have K:=jI (jN h1 J);have hk:=(fZ A J).1;clear h1 J
 go_wp2_with(go_at_call 196;fail)
 refine(gu _ _).mono ?_;rintro e L ⟨rfl,M⟩;have N:=lx M hk;have O:=jc 0 N;have Q:=jc 1 N;have S:=ea N 0;have T:=ea N 1;have U:=jI (jN (K.out.1.below M) (K.out.2.trans (Fz.below M)));clear hk M N;go_wp2;obtain⟨V,W⟩:=j_ (y:=(z,none)) (p:=none) (l:=0) (c:=0) A U.out.1 U.out.2 rfl
 refine bodyPost_ret (jH Tryz.results198 _ _ w.heap.size _ _ rfl V) rfl ?_;rw[<-D.out];have:au ah (λn=>ar ((n,none):Vl)) k.s= .ok ((z,none),(k.take1 H).s):=by rw[F.out];rfl
 rw[this];exact W
theorem BI(n:Int)(p:jO)(l c:Nat)(W:jW):(Instr.field 248 (uF n (jL p l c)) 0).run Tryz.prog W= .ok (jV n) W:=by kernel_rfl
theorem ME(n:Int)(p:jO)(l c:Nat)(W:jW):(Instr.field 248 (uF n (jL p l c)) 1).run Tryz.prog W= .ok (jL p l c) W:=by kernel_rfl
theorem jw.below{a n:Nat}{b:List (Nat×Nat)}{o:Own}(h:jw w a n b o)(c:az w w'):jw w' a n b o:=by
 obtain⟨f,h1,h2⟩:=h;exact⟨f,h1.kept (c.block a h1.lt),h2⟩
theorem nY{t:Tr}{a n:Nat}{o:Own}(b:mh X g t v)(c:St X.w0 X.P X.fv w r d)(e:jw w a n r.ab o)(f:∀out,eM X.fs g d o t r.s≠.error (99,out)):S2 v a (w.alloc R0) (EP X (w.alloc R0) r d (eM X.fs g d o t r.s)):=b _ r d a n o (c.below (eL w R0)) (e.below (eL w R0)) f
def Rs.new1(r:Rs)(b:Nat)(n:Nat):Rs:={r with ab:=r.ab++[(b,n)],s:={r.s with hp:=r.s.hp++[List.replicate n 0]}}
theorem St.newA{c:jU}(h:St w0 P c w r d){n:Nat}(f:n<=40):St w0 P c (w.alloc (jC (fI (List.replicate n 0)).toArray 2)) (r.new1 w.heap.size n) d/\Fz P iL w r (w.alloc (jC (fI (List.replicate n 0)).toArray 2)) (r.new1 w.heap.size n):=by
 have g:=eL w (jC (fI (List.replicate n 0)).toArray 2);have j:=h.below g;have m:=h.newX (aD w.heap.size);have o:(r.new1 w.heap.size n).ab.map (·.1)=r.ab.map (·.1)++[w.heap.size]:=by simp[Rs.new1]
 refine⟨⟨j.lt,j.le,j.kp,j.pb,j.inp,j.out,?_,?_,?_,?_,?_,j.few,j.told,j.deep⟩,⟨g.os,g.tape,g.output,g.size,λb h1 _ _=>g.block b h1,⟨[(w.heap.size,n)],rfl⟩,?_⟩⟩
 ·intro i p q;rw[o]at q;rcases bE.1 q with q|q
  ·exact h.apart i p q
  ·rw[a_]at q;subst q;exact m (.inr (.inr p))
 ·show(r.ab++_).length=(r.s.hp++_).length;simp[h.alen]
 ·intro i b k p;have t:(r.ab++[(w.heap.size,n)])[i]?=some (b,k):=p;show∃l,(r.s.hp++[List.replicate n 0])[i]?=some l/\_;rcases bG i r.ab.length with u|v
  ·rw[aW u]at t;obtain⟨l,x,y,z,A⟩:=j.arr i b k t;exact⟨l,by rw[aW (by rw[<-h.alen];exact u)];exact x,y,z,A⟩
  ·rw[aX v]at t;have B:i-r.ab.length=0:=by
    rcases b8 (i-r.ab.length) with e|e
    ·exact e
    ·rw[dw (by simp;omega)]at t;cases t
   rw[B]at t;have C:(w.heap.size,n)=(b,k):=by simpa using t
   injection C with C e2;subst C;subst e2;refine⟨List.replicate n 0,?_,by simp,f,heap_alloc_last _ _⟩;rw[aX (by rw[<-h.alen];exact v),<-h.alen,B];rfl
 ·intro b q;rw[o]at q;rcases bE.1 q with q|q
  ·exact h.lo b q
  ·rw[a_]at q;subst q;exact h.le
 ·rw[o];refine b_.2 ⟨h.nd,by simp,λa D b g e=>?_⟩;rw[a_]at g;subst g;subst e;exact m (.inr (.inl D))
 ·intro b E F;rcases E with E|E|E
  ·exact absurd (.inl E) F
  ·rw[o]at E;rcases bE.1 E with E|E
   ·exact absurd (.inr (.inl E)) F
   ·rw[a_]at E;omega
  ·exact absurd (.inr (.inr E)) F
theorem zR(h:n<0\/40<n):ai n s= .error (4,s.out):=if_pos h
theorem zT(h:0<=n/\n<=40):ai n s= .ok ((0,some s.hp.length),{s with hp:=s.hp++[List.replicate n.toNat 0]}):=if_neg (by omega)
theorem go_new(b:nS X){r:Tr}(h:X.w0.heap[bl]?=some (jC #[vl] 245))(j:mh X g l vl):mh X (g+1) (nd 6 a n nm f l r xs) (.func (.func 193) #[] #[ptr bl]):=by
 intro w q d t m o u v z;rw[NB]at z⊢;have h1:=u.old h b (by decide);have A:=jc 0 h1;have B:Hid (St X.w0 X.P X.fv w q d):=u;have C:bl<w.heap.size:=(aC.1 h1).1;obtain⟨k,D,rfl,E,hc⟩:=nY j u v (fP z).1;have F:Hid (aA k (#[.map (some t)]++D) (w.alloc R0) (EP X (w.alloc R0) q d (eM X.fs g d o l q.s))):=hc;have H:=kj.xq E;refine⟨193,_,rfl,FR,?_⟩;show aA 193 #[.map (some t),ptr bl] w _;generalize I:EP X w q d (au (eM X.fs g d o l) (λx=>ai x.1) q.s)=G;have J:Hid (EP X w q d (au (eM X.fs g d o l) (λx=>ai x.1) q.s)=G):=I;clear u v z h h1 I hc j E;have K:=BI;go_enter Tryz.func193,Tryz.ntmps193;go_wp2;refine F.out.mono ?_
 rintro e w1 ⟨L,h1,M,⟨y,p,N,c,O,rfl,Q⟩|⟨S,out,O,T⟩⟩
 rotate_left
 ·obtain⟨_,U,rfl,_⟩:=id T;refine⟨rfl,?_⟩;rw[<-J.out,gS O];exact kH h1 M T
 have V:Hid (St X.w0 X.P X.fv w1 L d/\Fz X.P iL (w.alloc R0) q w1 L):=⟨h1,M⟩;have W:Hid (eM X.fs g d o l q.s= .ok (y,L.s)):=O;clear h1 M O Q
 go_wp2_with(go_at_call 194;fail)
 refine(rh _ _).mono ?_;rintro e Y (⟨Z,rfl,rfl⟩|⟨f,b,rfl,A⟩)
 ·refine⟨rfl,?_⟩;rw[<-J.out,ft W.out,zR Z];exact EP.after (nT V.out.2) (vK V.out.1)
 ·obtain⟨C,D⟩:=V.out.1.newA (n:=y.1.toNat) (by omega);rw[<-A]at C D;have t:Hid (St X.w0 X.P X.fv Y (L.new1 w1.heap.size y.1.toNat) d/\Fz X.P iL (w.alloc R0) q Y (L.new1 w1.heap.size y.1.toNat)):=⟨C,V.out.2.trans D⟩;have H:=(fZ B.out t.out.2).1;have h:=jc 0 H;have j:=jc 1 H;have u:=ea H 0;have v:=ea H 1;have z:Hid (0<=y.1/\y.1<=40):=⟨f,b⟩;obtain⟨E,I⟩:=aB y.1.toNat;have F:Hid (E=y.1.toNat):=I;rw[<-I];obtain⟨K,N⟩:=aB w1.heap.size;have S:Hid (K=w1.heap.size):=N;rw[<-N];clear C D A H f b I N;go_wp2;have T:=V.out.1.alen
  obtain⟨U,M⟩:=j_ (y:=(0,some L.s.hp.length)) (p:=some (jA K)) (l:=E) (c:=E) B.out t.out.1 t.out.2 ⟨w1.heap.size,y.1.toNat,by show(L.ab++_)[L.s.hp.length]?=_;rw[<-T];simp,by rw[F.out,S.out]⟩;refine bodyPost_ret (jH Tryz.results193 _ _ w.heap.size _ _ rfl U) rfl ?_;rw[<-J.out,ft W.out,zT z.out];exact M
theorem Cy(fs:By->Option eR)(g d:Nat)(o:Own)(a n:Int)(nm b:By)(l r xs:Tr):eM fs (g+1) d o (nd 4 a n nm b l r xs)=au (eM fs g d o l) λx=>ar (if b=[45] then wrap64 (-x.1) else gJ (decide (x.1=0)),none):=by rw[ij];simp
theorem pY(b:Bool)(w:jW):aA 223 #[.bool b] w λe w'=>e=jR (jV (gJ b))/\w'=w:=uE b w
theorem vU{a:jU}(h:St w0 P a w r d){q:Option Nat}{l:Nat}(e:pA r.ab q (jL p l c)):(aj r.s q).length=l:=by
 cases q with
 |none=>
  injection e with _ h2 _;rw[h2];rfl
 |some i=>
  obtain⟨b,n,h1,h2⟩:=e;injection h2 with _ h3 _;obtain⟨f,g,j,_,_⟩:=h.arr i b n h1;show(r.s.hp.getD i []).length=l;rw[aU,g,h3];exact j
theorem Ky{a:jU}(h:St w0 P a w r d){q:Option Nat}{l:Nat}(e:pA r.ab q (jL p l c)):l<=40:=by
 cases q with
 |none=>
  injection e with _ h2 _;omega
 |some i=>
  obtain⟨b,n,h1,h2⟩:=e;injection h2 with _ h3 _;obtain⟨f,_,_,g,_⟩:=h.arr i b n h1;omega
theorem go_len(b:nS X){r:Tr}(h:X.w0.heap[bl]?=some (jC #[vl] 245))(j:mh X g l vl):mh X (g+1) (nd 7 a n nm f l r xs) (.func (.func 195) #[] #[ptr bl]):=by
 intro w q d t m o u v z;rw[NC]at z⊢;have h1:=u.old h b (by decide);have A:=jc 0 h1;have B:Hid (St X.w0 X.P X.fv w q d):=u;have C:bl<w.heap.size:=(aC.1 h1).1;obtain⟨k,D,rfl,E,hc⟩:=nY j u v (fP z).1;have F:Hid (aA k (#[.map (some t)]++D) (w.alloc R0) (EP X (w.alloc R0) q d (eM X.fs g d o l q.s))):=hc;have H:=kj.xq E;refine⟨195,_,rfl,FT,?_⟩;show aA 195 #[.map (some t),ptr bl] w _;generalize I:EP X w q d (au (eM X.fs g d o l) (λx=>au (ak x.2) λn=>ar (n,none)) q.s)=G;have J:Hid (EP X w q d (au (eM X.fs g d o l) (λx=>au (ak x.2) λn=>ar (n,none)) q.s)=G):=I;clear u v z h h1 I hc j E;have K:=BI;have L:=ME;go_enter Tryz.func195,Tryz.ntmps195;go_wp2;refine F.out.mono ?_
 rintro e w1 ⟨M,h1,N,⟨y,p,O,c,Q,rfl,S⟩|⟨T,out,Q,U⟩⟩
 rotate_left
 ·obtain⟨_,V,rfl,_⟩:=id U;refine⟨rfl,?_⟩;rw[<-J.out,gS Q];exact kH h1 N U
 have W:Hid (St X.w0 X.P X.fv w1 M d/\Fz X.P iL (w.alloc R0) q w1 M):=⟨h1,N⟩;have Y:Hid (eM X.fs g d o l q.s= .ok (y,M.s)):=Q;have Z:Hid (pA M.ab y.2 (jL p O c)):=S;have hk:=(fZ B.out N).1;clear h1 N Q S;have f:=vU W.out.1 Z.out;have b:=Ky W.out.1 Z.out;have A:Hid ((aj M.s y.2).length=O):=f;clear f
 go_wp2_with(go_at_call 196;fail)
 refine(gu _ _).mono ?_;rintro e C ⟨rfl,D⟩;have t:=lx D hk;have H:=jc 0 t;have h:=jc 1 t;have j:=ea t 0;have u:=ea t 1;have v:Hid (St X.w0 X.P X.fv C M d/\Fz X.P iL (w.alloc R0) q C M):=⟨W.out.1.below D,W.out.2.trans (Fz.below D)⟩;clear hk D t;go_wp2;obtain⟨z,E⟩:=j_ (y:=((O:Int),none)) (p:=none) (l:=0) (c:=0) B.out v.out.1 v.out.2 rfl
 refine bodyPost_ret (jH Tryz.results195 _ _ w.heap.size _ _ rfl z) rfl ?_;rw[<-J.out,ft Y.out];have:au (ak y.2) (λn=>ar ((n,none):Vl)) M.s= .ok (((O:Int),none),M.s):=by
  show Except.ok ((((aj M.s y.2).length:Int),none),M.s)=_;rw[A.out]
 rw[this];exact E
theorem go_neg(b:nS X){r:Tr}(h:f=[45])(j:X.w0.heap[bl]?=some (jC #[vl] 245))(q:mh X g l vl):mh X (g+1) (nd 4 a n nm f l r xs) (.func (.func 227) #[] #[ptr bl]):=by
 intro w t d u m o v z A;rw[Cy]at A⊢;have h1:=v.old j b (by decide);have B:=jc 0 h1;have C:Hid (St X.w0 X.P X.fv w t d):=v;have D:bl<w.heap.size:=(aC.1 h1).1;obtain⟨k,E,rfl,F,hc⟩:=nY q v z (fP A).1;have H:Hid (aA k (#[.map (some u)]++E) (w.alloc R0) (EP X (w.alloc R0) t d (eM X.fs g d o l t.s))):=hc;have I:=kj.xq F;refine⟨227,_,rfl,Ga,?_⟩;show aA 227 #[.map (some u),ptr bl] w _;generalize J:EP X w t d (au (eM X.fs g d o l) (λx=>ar (if f=[45] then wrap64 (-x.1) else gJ (decide (x.1=0)),none)) t.s)=G;have K:Hid (EP X w t d (au (eM X.fs g d o l) (λx=>ar (if f=[45] then wrap64 (-x.1) else gJ (decide (x.1=0)),none)) t.s)=G):=J;clear v z A j h1 J hc q F;have L:=BI;have M:=ME;go_enter Tryz.func227,Tryz.ntmps227;go_wp2;refine H.out.mono ?_
 rintro e w1 ⟨N,h1,O,⟨y,p,Q,c,S,rfl,T⟩|⟨U,out,S,V⟩⟩
 rotate_left
 ·obtain⟨_,W,rfl,_⟩:=id V;refine⟨rfl,?_⟩;rw[<-K.out,gS S];exact kH h1 O V
 have Y:Hid (St X.w0 X.P X.fv w1 N d/\Fz X.P iL (w.alloc R0) t w1 N):=⟨h1,O⟩;have Z:Hid (eM X.fs g d o l t.s= .ok (y,N.s)):=S;have b:Hid (pA N.ab y.2 (jL p Q c)):=T;have hk:=(fZ C.out O).1;clear h1 O S T
 go_wp2_with(go_at_call 196;fail)
 refine(gu _ _).mono ?_;rintro e B ⟨rfl,D⟩;have E:=lx D hk;have u:=jc 0 E;have I:=jc 1 E;have f:=ea E 0;have j:=ea E 1;have q:Hid (St X.w0 X.P X.fv B N d/\Fz X.P iL (w.alloc R0) t B N):=⟨Y.out.1.below D,Y.out.2.trans (Fz.below D)⟩;clear hk D E;go_wp2;obtain⟨v,z⟩:=j_ (y:=(wrap64 (-y.1),none)) (p:=none) (l:=0) (c:=0) C.out q.out.1 q.out.2 rfl
 refine bodyPost_ret (jH Tryz.results227 _ _ w.heap.size _ _ rfl v) rfl ?_;rw[<-K.out,ft Z.out];rw[if_pos h];exact z
theorem go_not(b:nS X){r:Tr}(h:f≠[45])(j:X.w0.heap[bl]?=some (jC #[vl] 245))(q:mh X g l vl):mh X (g+1) (nd 4 a n nm f l r xs) (.func (.func 228) #[] #[ptr bl]):=by
 intro w t d u m o v z A;rw[Cy]at A⊢;have h1:=v.old j b (by decide);have B:=jc 0 h1;have C:Hid (St X.w0 X.P X.fv w t d):=v;have D:bl<w.heap.size:=(aC.1 h1).1;obtain⟨k,E,rfl,F,hc⟩:=nY q v z (fP A).1;have H:Hid (aA k (#[.map (some u)]++E) (w.alloc R0) (EP X (w.alloc R0) t d (eM X.fs g d o l t.s))):=hc;have I:=kj.xq F;refine⟨228,_,rfl,Gb,?_⟩;show aA 228 #[.map (some u),ptr bl] w _;generalize J:EP X w t d (au (eM X.fs g d o l) (λx=>ar (if f=[45] then wrap64 (-x.1) else gJ (decide (x.1=0)),none)) t.s)=G;have K:Hid (EP X w t d (au (eM X.fs g d o l) (λx=>ar (if f=[45] then wrap64 (-x.1) else gJ (decide (x.1=0)),none)) t.s)=G):=J;clear v z A j h1 J hc q F;have L:=BI;have M:=ME;go_enter Tryz.func228,Tryz.ntmps228;go_wp2;refine H.out.mono ?_
 rintro e w1 ⟨N,h1,O,⟨y,p,Q,c,S,rfl,T⟩|⟨U,out,S,V⟩⟩
 rotate_left
 ·obtain⟨_,W,rfl,_⟩:=id V;refine⟨rfl,?_⟩;rw[<-K.out,gS S];exact kH h1 O V
 have Y:Hid (St X.w0 X.P X.fv w1 N d/\Fz X.P iL (w.alloc R0) t w1 N):=⟨h1,O⟩;have Z:Hid (eM X.fs g d o l t.s= .ok (y,N.s)):=S;have b:Hid (pA N.ab y.2 (jL p Q c)):=T;have hk:=(fZ C.out O).1;clear h1 O S T
 go_wp2_with(go_at_call 223;fail)
 refine(pY _ _).mono ?_;rintro e w' ⟨rfl,rfl⟩
 go_wp2_with(go_at_call 196;fail)
 refine(gu _ _).mono ?_;rintro e B ⟨rfl,D⟩;have E:=lx D hk;have u:=jc 0 E;have I:=jc 1 E;have f:=ea E 0;have j:=ea E 1;have q:Hid (St X.w0 X.P X.fv B N d/\Fz X.P iL (w.alloc R0) t B N):=⟨Y.out.1.below D,Y.out.2.trans (Fz.below D)⟩;clear hk D E;go_wp2;obtain⟨v,z⟩:=j_ (y:=(gJ (y.1==0),none)) (p:=none) (l:=0) (c:=0) C.out q.out.1 q.out.2 rfl
 refine bodyPost_ret (jH Tryz.results228 _ _ w.heap.size _ _ rfl v) rfl ?_;rw[<-K.out,ft Z.out];rw[if_neg h,show decide (y.1=0)=(y.1==0) by simp[cA]];exact z
theorem ND(fs:By->Option eR)(g d:Nat)(o:Own)(a n:Int)(nm b:By)(l r xs:Tr):eM fs (g+1) d o (nd 8 a n nm b l r xs)=au (eM fs g d o l) λx=>au (eM fs g d o r) λy=>au (ap x.2 y.1) λn=>ar (n,none):=by rw[ij];simp
theorem Si(fs:By->Option eR)(g d:Nat)(o:Own)(a n:Int)(nm b:By)(l r xs:Tr)(h:b=[38,38]):eM fs (g+1) d o (nd 3 a n nm b l r xs)=au (eM fs g d o l) λx=>if x.1=0 then ar (0,none) else au (eM fs g d o r) λy=>ar (gJ (decide (y.1≠0)),none):=by rw[ij];simp[h]
theorem Sj(fs:By->Option eR)(g d:Nat)(o:Own)(a n:Int)(nm b:By)(l r xs:Tr)(h:b=[124,124]):eM fs (g+1) d o (nd 3 a n nm b l r xs)=au (eM fs g d o l) λx=>if x.1≠0 then ar (1,none) else au (eM fs g d o r) λy=>ar (gJ (decide (y.1≠0)),none):=by rw[ij];simp[h]
theorem NA(fs:By->Option eR)(g d:Nat)(o:Own)(a n:Int)(nm b:By)(l r xs:Tr)(h1:b≠[38,38])(h2:b≠[124,124]):eM fs (g+1) d o (nd 3 a n nm b l r xs)=au (eM fs g d o l) λx=>au (eM fs g d o r) λy=>au (aw b x.1 y.1) λz=>ar (z,none):=by rw[ij];simp[h1,h2]
theorem go_item(f:nS X){h:Nat}{r:Tr}(q:X.w0.heap[bl]?=some (jC #[vl] 245))(t:X.w0.heap[h]?=some (jC #[vr] 245))(u:mh X g l vl)(A:mh X g r vr):mh X (g+1) (nd 8 a n nm j l r xs) (.func (.func 197) #[] #[ptr bl,ptr h]):=by
 intro w B d C m o D E F;rw[ND]at F⊢;have h1:=D.old q f (by decide);have H:=jc 0 h1;have I:Hid (St X.w0 X.P X.fv w B d):=D;have J:Hid (jw (w.alloc R0) C m B.ab o):=E.below (eL w R0);have K:bl<w.heap.size:=(aC.1 h1).1;have L:Hid (∀y M,eM X.fs g d o l B.s= .ok (y,M)->∀out,(λx=>au (eM X.fs g d o r) λy=>au (ap x.2 y.1) λn=>ar (n,none)) y M≠.error (99,out)):=(fP F).2;have N:Hid (nS X):=f;have O:Hid (X.w0.heap[h]?=some (jC #[vr] 245)):=t;have Q:Hid (mh X g r vr):=A;obtain⟨k,S,rfl,T,hc⟩:=nY u D E (fP F).1;have U:Hid (aA k (#[.map (some C)]++S) (w.alloc R0) (EP X (w.alloc R0) B d (eM X.fs g d o l B.s))):=hc;have V:=kj.xq T;refine⟨197,_,rfl,FU,?_⟩;show aA 197 #[.map (some C),ptr bl,ptr h] w _;generalize W:EP X w B d (au (eM X.fs g d o l) (λx=>au (eM X.fs g d o r) λy=>au (ap x.2 y.1) λn=>ar (n,none)) B.s)=G;have Y:Hid (EP X w B d (au (eM X.fs g d o l) (λx=>au (eM X.fs g d o r) λy=>au (ap x.2 y.1) λn=>ar (n,none)) B.s)=G):=W;clear D E F q h1 W hc u T t A f;have Z:=BI;have j:=ME;go_enter Tryz.func197,Tryz.ntmps197;go_wp2;refine U.out.mono ?_
 rintro e w1 ⟨M,h1,S,⟨y,p,f,c,q,rfl,t⟩|⟨u,out,q,A⟩⟩
 rotate_left
 ·obtain⟨_,D,rfl,_⟩:=id A;refine⟨rfl,?_⟩;rw[<-Y.out,gS q];exact kH h1 S A
 have E:Hid (St X.w0 X.P X.fv w1 M d/\Fz X.P iL (w.alloc R0) B w1 M):=⟨h1,S⟩;have F:Hid (eM X.fs g d o l B.s= .ok (y,M.s)):=q;have T:Hid (pA M.ab y.2 (jL p f c)):=t;have W:Hid (jw w1 C m M.ab o):=J.out.keeps (I.out.below (eL w R0)) S;have Z:w1.cell? (jA h)=some vr:=jc 0 (h1.old O.out N.out (by decide));have hk:=(fZ I.out S).1;have U:=L.out y M.s q;clear h1 S q t V H K;obtain⟨j,f,rfl,J,h⟩:=Q.out w1 M d C m o E.out.1 W.out (fP U).1;have N:Hid (aA j (#[.map (some C)]++f) w1 (EP X w1 M d (eM X.fs g d o r M.s))):=h;have V:=kj.xq J;clear U h J;go_wp2;refine N.out.mono ?_
 rintro e O ⟨H,h1,S,⟨z,K,L,Q,q,rfl,t⟩|⟨u,out,q,A⟩⟩
 rotate_left
 ·obtain⟨_,D,rfl,_⟩:=id A;refine⟨rfl,?_⟩;rw[<-Y.out,ft F.out,gS q];exact kH h1 (E.out.2.trans S) A
 have W:Hid (St X.w0 X.P X.fv O H d/\Fz X.P iL (w.alloc R0) B O H):=⟨h1,E.out.2.trans S⟩;have C:Hid (eM X.fs g d o r M.s= .ok (z,H.s)):=q;have U:Hid (M.ab<+:H.ab):=S.pre;have j:=(fZ I.out W.out.2).1;clear h1 S q t hk Z V;cases f:y.2 with
 |none=>
  have t:=T.out;rw[f]at t;injection t with q1 q2 q3;subst q1 q2 q3;have J:Hid (ap y.2 z.1 H.s= .error (3,H.s.out)):=if_pos (by rw[f];show z.1<0\/(0:Int)<=z.1;omega);clear f
  go_wp2_with(go_at_call 186;fail)
  refine(qq _ _).mono ?_;rintro e h ⟨rfl,rfl⟩;refine⟨rfl,?_⟩;rw[<-Y.out,ft F.out,ft C.out,gS J.out];exact EP.after (nT W.out.2) (vK W.out.1)
 |some i=>
  have t:=T.out.mono U.out;rw[f]at t;obtain⟨b,N,K,L⟩:=t;injection L with q1 q2 q3;subst q1 q2 q3;obtain⟨u,A,D,Q,E⟩:=W.out.1.arr i b c K;have M:Hid (aj H.s y.2=u):=by
   show aj H.s y.2=u;rw[f];show H.s.hp.getD i []=u;rw[aU,A];rfl
  have V:Hid (u.length=c):=D;have S:Hid (O.heap[b]?=some (jC (fI u).toArray 2)):=E;clear f K A D E
  go_wp2_with(go_at_call 186;fail)
  refine(n7 _ _ _ _ _ Q).mono ?_;rintro e h ⟨⟨q,rfl⟩|⟨Z,T,rfl⟩,rfl⟩
  ·refine⟨rfl,?_⟩;have J:ap y.2 z.1 H.s= .error (3,H.s.out):=if_pos (by rw[M.out,V.out];exact q);rw[<-Y.out,ft F.out,ft C.out,gS J];exact EP.after (nT W.out.2) (vK W.out.1)
  ·obtain⟨v,U⟩:∃v,u[z.1.toNat]?=some v:=⟨u[z.1.toNat]'(by have:=V.out;omega),aI (by have:=V.out;omega)⟩;have J:Hid (ap y.2 z.1 H.s= .ok (v,H.s)):=by
    show ap y.2 z.1 H.s=_;unfold ap;rw[M.out,V.out,if_neg (by omega),aU,U];rfl
   have cv:h.cell? (jB b z.1.toNat)=some (jV v):=eo S.out (by simp[fI,U]);obtain⟨N,t⟩:=aB z.1.toNat;rw[<-t]at cv⊢;clear U Z T t
   go_wp2_with(go_at_call 196;fail)
   refine(gu _ _).mono ?_;rintro e h ⟨rfl,L⟩;have O:=lx L j;have f:=jc 0 O;have K:=jc 1 O;have A:=ea O 0;have D:=ea O 1;have Q:Hid (St X.w0 X.P X.fv h H d/\Fz X.P iL (w.alloc R0) B h H):=⟨W.out.1.below L,W.out.2.trans (Fz.below L)⟩;clear j L O;go_wp2;obtain⟨E,q⟩:=j_ (y:=(v,none)) (p:=none) (l:=0) (c:=0) I.out Q.out.1 Q.out.2 rfl
   refine bodyPost_ret (jH Tryz.results197 _ _ w.heap.size _ _ rfl E) rfl ?_;rw[<-Y.out,ft F.out,ft C.out,ft J.out];exact q
theorem go_and(b:nS X){f:Nat}{r:Tr}(q:j=[38,38])(t:X.w0.heap[bl]?=some (jC #[vl] 245))(u:X.w0.heap[f]?=some (jC #[vr] 245))(v:mh X g l vl)(A:mh X g r vr):mh X (g+1) (nd 3 a n nm j l r xs) (.func (.func 222) #[] #[ptr bl,ptr f]):=by
 intro w B d C m o D E F;rw[Si (h:=q)]at F⊢;have h1:=D.old t b (by decide);have H:=jc 0 h1;have I:Hid (St X.w0 X.P X.fv w B d):=D;have J:Hid (jw (w.alloc R0) C m B.ab o):=E.below (eL w R0);have K:bl<w.heap.size:=(aC.1 h1).1;have L:Hid (∀y M,eM X.fs g d o l B.s= .ok (y,M)->∀out,(λx=>if x.1=0 then ar (0,none) else au (eM X.fs g d o r) λy=>ar (gJ (decide (y.1≠0)),none)) y M≠.error (99,out)):=(fP F).2;have N:Hid (nS X):=b;have O:Hid (X.w0.heap[f]?=some (jC #[vr] 245)):=u;have Q:Hid (mh X g r vr):=A;obtain⟨k,S,rfl,T,hc⟩:=nY v D E (fP F).1;have U:Hid (aA k (#[.map (some C)]++S) (w.alloc R0) (EP X (w.alloc R0) B d (eM X.fs g d o l B.s))):=hc;have V:=kj.xq T;refine⟨222,_,rfl,FY,?_⟩;show aA 222 #[.map (some C),ptr bl,ptr f] w _;generalize W:EP X w B d (au (eM X.fs g d o l) (λx=>if x.1=0 then ar (0,none) else au (eM X.fs g d o r) λy=>ar (gJ (decide (y.1≠0)),none)) B.s)=G;have Y:Hid (EP X w B d (au (eM X.fs g d o l) (λx=>if x.1=0 then ar (0,none) else au (eM X.fs g d o r) λy=>ar (gJ (decide (y.1≠0)),none)) B.s)=G):=W;clear D E F t h1 W hc v T u A b;have Z:=BI;have j:=ME;go_enter Tryz.func222,Tryz.ntmps222;go_wp2;refine U.out.mono ?_
 rintro e w1 ⟨q,h1,M,⟨y,p,S,c,b,rfl,t⟩|⟨u,out,b,v⟩⟩
 rotate_left
 ·obtain⟨_,A,rfl,_⟩:=id v;refine⟨rfl,?_⟩;rw[<-Y.out,gS b];exact kH h1 M v
 have D:Hid (St X.w0 X.P X.fv w1 q d/\Fz X.P iL (w.alloc R0) B w1 q):=⟨h1,M⟩;have E:Hid (eM X.fs g d o l B.s= .ok (y,q.s)):=b;have F:Hid (pA q.ab y.2 (jL p S c)):=t;have T:Hid (jw w1 C m q.ab o):=J.out.keeps (I.out.below (eL w R0)) M;have W:w1.cell? (jA f)=some vr:=jc 0 (h1.old O.out N.out (by decide));have hk:=(fZ I.out M).1;have Z:=L.out y q.s b;clear h1 M b t V H K;obtain⟨U,j⟩:=y;by_cases S:U=0
 ·have hd:(U !=0)=false:=by simp[S]
  have F:Hid (U=0):=S;clear S Z W
  go_wp2_with(go_at_call 223;fail)
  refine(pY _ _).mono ?_;rintro e w' ⟨rfl,rfl⟩
  go_wp2_with(go_at_call 196;fail)
  refine(gu _ _).mono ?_;rintro e J ⟨rfl,f⟩;have N:=lx f hk;have O:=jc 0 N;have H:=jc 1 N;have K:=ea N 0;have L:=ea N 1;have j:Hid (St X.w0 X.P X.fv J q d/\Fz X.P iL (w.alloc R0) B J q):=⟨D.out.1.below f,D.out.2.trans (Fz.below f)⟩;clear hk f N;go_wp2;obtain⟨A0,A1⟩:=j_ (y:=(gJ false,none)) (p:=none) (l:=0) (c:=0) I.out j.out.1 j.out.2 rfl
  refine bodyPost_ret (jH Tryz.results222 _ _ w.heap.size _ _ rfl A0) rfl ?_;rw[<-Y.out,ft E.out,if_pos F.out];exact A1
 ·have hd:(U !=0)=true:=by simpa using S
  have F:Hid (U≠0):=S;rw[if_neg S]at Z;clear S;obtain⟨U,S,rfl,A2,A3⟩:=Q.out w1 q d C m o D.out.1 T.out (fP Z).1;have Q:Hid (aA U (#[.map (some C)]++S) w1 (EP X w1 q d (eM X.fs g d o r q.s))):=A3;have V:=kj.xq A2;clear Z A3 A2;go_wp2;refine Q.out.mono ?_
  rintro e T ⟨C,h1,M,⟨z,Z,U,S,b,rfl,t⟩|⟨u,out,b,v⟩⟩
  rotate_left
  ·obtain⟨_,A,rfl,_⟩:=id v;refine⟨rfl,?_⟩;rw[<-Y.out,ft E.out,if_neg F.out,gS b];exact kH h1 (D.out.2.trans M) v
  have Q:Hid (St X.w0 X.P X.fv T C d/\Fz X.P iL (w.alloc R0) B T C):=⟨h1,D.out.2.trans M⟩;have Z:Hid (eM X.fs g d o r q.s= .ok (z,C.s)):=b;have U:Hid (q.ab<+:C.ab):=M.pre;have u:=(fZ I.out Q.out.2).1;clear h1 M b t hk W V
  go_wp2_with(go_at_call 223;fail)
  refine(pY _ _).mono ?_;rintro e w' ⟨rfl,rfl⟩
  go_wp2_with(go_at_call 196;fail)
  refine(gu _ _).mono ?_;rintro e J ⟨rfl,f⟩;have N:=lx f u;have O:=jc 0 N;have H:=jc 1 N;have K:=ea N 0;have L:=ea N 1;have j:Hid (St X.w0 X.P X.fv J C d/\Fz X.P iL (w.alloc R0) B J C):=⟨Q.out.1.below f,Q.out.2.trans (Fz.below f)⟩;clear u f N;go_wp2;obtain⟨A0,A1⟩:=j_ (y:=(gJ (z.1 !=0),none)) (p:=none) (l:=0) (c:=0) I.out j.out.1 j.out.2 rfl
  refine bodyPost_ret (jH Tryz.results222 _ _ w.heap.size _ _ rfl A0) rfl ?_;rw[<-Y.out,ft E.out,if_neg F.out,ft Z.out,show decide (z.1≠0)=(z.1 !=0) by simp[bne,cA]];exact A1
theorem go_or(b:nS X){f:Nat}{r:Tr}(q:j=[124,124])(t:X.w0.heap[bl]?=some (jC #[vl] 245))(u:X.w0.heap[f]?=some (jC #[vr] 245))(v:mh X g l vl)(A:mh X g r vr):mh X (g+1) (nd 3 a n nm j l r xs) (.func (.func 224) #[] #[ptr bl,ptr f]):=by
 intro w B d C m o D E F;rw[Sj (h:=q)]at F⊢;have h1:=D.old t b (by decide);have H:=jc 0 h1;have I:Hid (St X.w0 X.P X.fv w B d):=D;have J:Hid (jw (w.alloc R0) C m B.ab o):=E.below (eL w R0);have K:bl<w.heap.size:=(aC.1 h1).1;have L:Hid (∀y M,eM X.fs g d o l B.s= .ok (y,M)->∀out,(λx=>if x.1≠0 then ar (1,none) else au (eM X.fs g d o r) λy=>ar (gJ (decide (y.1≠0)),none)) y M≠.error (99,out)):=(fP F).2;have N:Hid (nS X):=b;have O:Hid (X.w0.heap[f]?=some (jC #[vr] 245)):=u;have Q:Hid (mh X g r vr):=A;obtain⟨k,S,rfl,T,hc⟩:=nY v D E (fP F).1;have U:Hid (aA k (#[.map (some C)]++S) (w.alloc R0) (EP X (w.alloc R0) B d (eM X.fs g d o l B.s))):=hc;have V:=kj.xq T;refine⟨224,_,rfl,FZ,?_⟩;show aA 224 #[.map (some C),ptr bl,ptr f] w _;generalize W:EP X w B d (au (eM X.fs g d o l) (λx=>if x.1≠0 then ar (1,none) else au (eM X.fs g d o r) λy=>ar (gJ (decide (y.1≠0)),none)) B.s)=G;have Y:Hid (EP X w B d (au (eM X.fs g d o l) (λx=>if x.1≠0 then ar (1,none) else au (eM X.fs g d o r) λy=>ar (gJ (decide (y.1≠0)),none)) B.s)=G):=W;clear D E F t h1 W hc v T u A b;have Z:=BI;have j:=ME;go_enter Tryz.func224,Tryz.ntmps224;go_wp2;refine U.out.mono ?_
 rintro e w1 ⟨q,h1,M,⟨y,p,S,c,b,rfl,t⟩|⟨u,out,b,v⟩⟩
 rotate_left
 ·obtain⟨_,A,rfl,_⟩:=id v;refine⟨rfl,?_⟩;rw[<-Y.out,gS b];exact kH h1 M v
 have D:Hid (St X.w0 X.P X.fv w1 q d/\Fz X.P iL (w.alloc R0) B w1 q):=⟨h1,M⟩;have E:Hid (eM X.fs g d o l B.s= .ok (y,q.s)):=b;have F:Hid (pA q.ab y.2 (jL p S c)):=t;have T:Hid (jw w1 C m q.ab o):=J.out.keeps (I.out.below (eL w R0)) M;have W:w1.cell? (jA f)=some vr:=jc 0 (h1.old O.out N.out (by decide));have hk:=(fZ I.out M).1;have Z:=L.out y q.s b;clear h1 M b t V H K;obtain⟨U,j⟩:=y;by_cases S:U=0
 ·have hd:(U !=0)=false:=by simp[S]
  have F:Hid (U=0):=S;rw[if_neg (by simpa using S)]at Z;clear S;obtain⟨J,f,rfl,N,O⟩:=Q.out w1 q d C m o D.out.1 T.out (fP Z).1;have H:Hid (aA J (#[.map (some C)]++f) w1 (EP X w1 q d (eM X.fs g d o r q.s))):=O;have V:=kj.xq N;clear Z O N;go_wp2;refine H.out.mono ?_
  rintro e K ⟨L,h1,M,⟨z,j,Q,T,b,rfl,t⟩|⟨u,out,b,v⟩⟩
  rotate_left
  ·obtain⟨_,A,rfl,_⟩:=id v;refine⟨rfl,?_⟩;rw[<-Y.out,ft E.out,if_neg (by simpa using F.out),gS b];exact kH h1 (D.out.2.trans M) v
  have C:Hid (St X.w0 X.P X.fv K L d/\Fz X.P iL (w.alloc R0) B K L):=⟨h1,D.out.2.trans M⟩;have J:Hid (eM X.fs g d o r q.s= .ok (z,L.s)):=b;have f:Hid (q.ab<+:L.ab):=M.pre;have N:=(fZ I.out C.out.2).1;clear h1 M b t hk W V
  go_wp2_with(go_at_call 223;fail)
  refine(pY _ _).mono ?_;rintro e w' ⟨rfl,rfl⟩
  go_wp2_with(go_at_call 196;fail)
  refine(gu _ _).mono ?_;rintro e O ⟨rfl,H⟩;have j:=lx H N;have Q:=jc 0 j;have u:=jc 1 j;have v:=ea j 0;have A:=ea j 1;have T:Hid (St X.w0 X.P X.fv O L d/\Fz X.P iL (w.alloc R0) B O L):=⟨C.out.1.below H,C.out.2.trans (Fz.below H)⟩;clear N H j;go_wp2;obtain⟨K,f⟩:=j_ (y:=(gJ (z.1 !=0),none)) (p:=none) (l:=0) (c:=0) I.out T.out.1 T.out.2 rfl
  refine bodyPost_ret (jH Tryz.results224 _ _ w.heap.size _ _ rfl K) rfl ?_;rw[<-Y.out,ft E.out,if_neg (by simpa using F.out),ft J.out,show decide (z.1≠0)=(z.1 !=0) by simp[bne,cA]];exact f
 ·have hd:(U !=0)=true:=by simpa using S
  have F:Hid (U≠0):=S;clear S Z W
  go_wp2_with(go_at_call 223;fail)
  refine(pY _ _).mono ?_;rintro e w' ⟨rfl,rfl⟩
  go_wp2_with(go_at_call 196;fail)
  refine(gu _ _).mono ?_;rintro e O ⟨rfl,H⟩;have j:=lx H hk;have Q:=jc 0 j;have u:=jc 1 j;have v:=ea j 0;have A:=ea j 1;have T:Hid (St X.w0 X.P X.fv O q d/\Fz X.P iL (w.alloc R0) B O q):=⟨D.out.1.below H,D.out.2.trans (Fz.below H)⟩;clear hk H j;go_wp2;obtain⟨K,f⟩:=j_ (y:=(gJ true,none)) (p:=none) (l:=0) (c:=0) I.out T.out.1 T.out.2 rfl
  refine bodyPost_ret (jH Tryz.results224 _ _ w.heap.size _ _ rfl K) rfl ?_;rw[<-Y.out,ft E.out,if_pos F.out];exact f
theorem wM(c:By)(a b:Int):aw c a b=(match gj c a b with|some n=>ar n|none=>ax 2):=by
 by_cases h1:c=[43]
 ·subst h1;rfl
 by_cases h2:c=[45]
 ·subst h2;rfl
 by_cases d:c=[42]
 ·subst d;rfl
 by_cases e:c=[47]
 ·subst e;by_cases f:b=0<;>simp[aw,gj,f]
 by_cases g:c=[37]
 ·subst g;by_cases f:b=0<;>simp[aw,gj,f]
 ·unfold aw gj;rw[if_neg h1,if_neg h2,if_neg d,if_neg e,if_neg g,if_neg h1,if_neg h2,if_neg d,if_neg e,if_neg g];rfl
theorem vh{c:By}{b:Int}(h:gj c a b=none):aw c a b s= .error (2,s.out):=by rw[wM,h];rfl
theorem vk{c:By}{b:Int}(h:gj c a b=some n):aw c a b s= .ok (n,s):=by rw[wM,h];rfl
theorem go_two(hP:nS X){br:Nat}{op:By}{r:Tr}(ho1:op≠[38,38])(ho2:op≠[124,124])(hn9:mA X.w0 bx 3 a n nm op)(hb:X.w0.heap[bl]?=some (jC #[vl] 245))(hb':X.w0.heap[br]?=some (jC #[vr] 245))(hl:mh X g l vl)(hr:mh X g r vr):mh X (g+1) (nd 3 a n nm op l r xs) (.func (.func 225) #[] #[ptr bl,ptr bx,ptr br]):=by
 intro w r0 d M m o hs ho hne;rw[NA (h1:=ho1) (h2:=ho2)]at hne⊢;have h1:=hs.old hb hP (by decide);have c1:=jc 0 h1;have HS:Hid (St X.w0 X.P X.fv w r0 d):=hs;have HO:Hid (jw (w.alloc R0) M m r0.ab o):=ho.below (eL w R0);have z1:bl<w.heap.size:=(aC.1 h1).1;have HNe:Hid (∀y s1,eM X.fs g d o l r0.s= .ok (y,s1)->∀out,(λx=>au (eM X.fs g d o r) λy=>au (aw op x.1 y.1) λz=>ar (z,none)) y s1≠.error (99,out)):=(fP hne).2;have HP:Hid (nS X):=hP;have HN9:Hid (mA X.w0 bx 3 a n nm op):=hn9;have HBr:Hid (X.w0.heap[br]?=some (jC #[vr] 245)):=hb';have HR:Hid (mh X g r vr):=hr;obtain⟨k,cap,rfl,hen,hc⟩:=nY hl hs ho (fP hne).1;have HC:Hid (aA k (#[.map (some M)]++cap) (w.alloc R0) (EP X (w.alloc R0) r0 d (eM X.fs g d o l r0.s))):=hc;have hen':=kj.xq hen;refine⟨225,_,rfl,F_,?_⟩;show aA 225 #[.map (some M),ptr bl,ptr bx,ptr br] w _;generalize hG:EP X w r0 d (au (eM X.fs g d o l) (λx=>au (eM X.fs g d o r) λy=>au (aw op x.1 y.1) λz=>ar (z,none)) r0.s)=G;have HG:Hid (EP X w r0 d (au (eM X.fs g d o l) (λx=>au (eM X.fs g d o r) λy=>au (aw op x.1 y.1) λz=>ar (z,none)) r0.s)=G):=hG;clear hs ho hne hb h1 hG hc hl hen hb' hr hP hn9;have hf0:=BI;have hf1:=ME;go_enter Tryz.func225,Tryz.ntmps225;go_wp2;refine HC.out.mono ?_
 rintro e w1 ⟨r1,h1,hf,⟨y,p,ll,c,hx,rfl,hq⟩|⟨k9,out,hx,he9⟩⟩
 rotate_left
 ·obtain⟨_,older,rfl,_⟩:=id he9;refine⟨rfl,?_⟩;rw[<-HG.out,gS hx];exact kH h1 hf he9
 have HF:Hid (St X.w0 X.P X.fv w1 r1 d/\Fz X.P iL (w.alloc R0) r0 w1 r1):=⟨h1,hf⟩;have HX:Hid (eM X.fs g d o l r0.s= .ok (y,r1.s)):=hx;have HQ:Hid (pA r1.ab y.2 (jL p ll c)):=hq;have HO1:Hid (jw w1 M m r1.ab o):=HO.out.keeps (HS.out.below (eL w R0)) hf;have c2:w1.cell? (jA br)=some vr:=jc 0 (h1.old HBr.out HP.out (by decide));have hk:=(fZ HS.out hf).1;have hN:=HNe.out y r1.s hx;clear h1 hf hx hq hen' c1 z1;obtain⟨b,vl',vr',vg',hbx,hbn⟩:=HN9.out;obtain⟨yo,hyo,hyt⟩:=fU op;have h1x:=HF.out.1.old hbx HP.out (by decide);have h1n:=HF.out.1.old hbn HP.out (by decide);have c3:w1.cell? (jA bx)=some (ptr b):=jc 0 h1x;have c4:w1.cell? (jB b 4)=some (jT yo):=by rw[<-hyo];exact jc 4 h1n
 have HBx:Hid (X.w0.heap[bx]?=some (jC #[ptr b] 145)/\X.w0.heap[b]?=some (jC #[jV 3,jV a,jV n,str nm,jT yo,vl',vr',vg'] 252)):=⟨hbx,by rw[<-hyo];exact hbn⟩;have HYo:Hid (yo.data.toList=op):=hyt;obtain⟨k2,cap2,rfl,hen2,-⟩:=HR.out w1 r1 d M m o HF.out.1 HO1.out (fP hN).1;have HC2:Hid (∀W,az w1 W->aA k2 (#[.map (some M)]++cap2) W (EP X W r1 d (eM X.fs g d o r r1.s))):=λW hb=>by
  obtain⟨k3,cap3,e3,_,hc3⟩:=HR.out W r1 d M m o (HF.out.1.below hb) (HO1.out.below hb) (fP hN).1;injection e3 with e3 _ e4;injection e3 with e3;subst e3;subst e4;exact hc3
 have hen':=kj.xq hen2;have HFd:Hid (∀W,az w1 W->∀w2 r2,Fz X.P iL W r1 w2 r2->Fz X.P iL (w.alloc R0) r0 w2 r2):=λW hb w2 r2 hf=>(HF.out.2.trans (Fz.below hb)).trans hf;have HBr2:Hid (X.w0.heap[br]?=some (jC #[.func (.func k2) #[] cap2] 245)):=HBr.out;clear hN hen2 hyo hyt hbx hbn h1x h1n
 go_wp2_with fail
 go_region_with
  (first
   |(go_at_call 226;refine(sB _ _ _ _).mono ?_;rintro e w3 ⟨⟨zz,hz,rfl⟩|⟨hz,rfl⟩,rfl⟩;rotate_left;exact(by refine⟨rfl,?_⟩;rw[<-HG.out,ft HX.out,ft HX2.out,gS (vh (HYo.out▸hz))];exact EP.after (nT HF2.out.2) (vK HF2.out.1));have HZ:Hid (gj op y.1 z.1=some zz):=(HYo.out▸hz);clear hz)
   |(go_at_call 196;refine(gu _ _).mono ?_;rintro e w4 ⟨rfl,hb2⟩;have hk4:=lx hb2 hk2;have b1:=jc 0 hk4;have b2:=jc 1 hk4;have b3:=ea hk4 0;have b4:=ea hk4 1;have HF3:Hid (St X.w0 X.P X.fv w4 r2 d/\Fz X.P iL (w.alloc R0) r0 w4 r2):=⟨HF2.out.1.below hb2,HF2.out.2.trans (Fz.below hb2)⟩;have t21:w4.cell? (jA bx)=some (ptr b):=jc 0 (HF3.out.1.old HBx.out.1 HP.out (by decide));have t22:w4.cell? (jB b 4)=some (jT yo):=jc 4 (HF3.out.1.old HBx.out.2 HP.out (by decide));have t23:w4.cell? (jA br)=some (.func (.func k2) #[] cap2):=jc 0 (HF3.out.1.old HBr2.out HP.out (by decide)))
   |(refine(HC2.out _ (by repeat first|exact aJ _ _|refine bF ?_)).mono ?_;rintro e w2 ⟨r2,h1,hf,⟨z,p2,l2,c3',hx,rfl,hq⟩|⟨k9,out,hx,he9⟩⟩;rotate_left;exact(by obtain⟨_,older,rfl,_⟩:=id he9;refine⟨rfl,?_⟩;rw[<-HG.out,ft HX.out,gS hx];exact kH h1 (HFd.out _ (by repeat first|exact aJ _ _|refine bF ?_) _ _ hf) he9);have HF2:Hid (St X.w0 X.P X.fv w2 r2 d/\Fz X.P iL (w.alloc R0) r0 w2 r2):=⟨h1,HFd.out _ (by repeat first|exact aJ _ _|refine bF ?_) _ _ hf⟩;have HX2:Hid (eM X.fs g d o r r1.s= .ok (z,r2.s)):=hx;have hk2:=(fZ HS.out HF2.out.2).1;have t11:w2.cell? (jA bx)=some (ptr b):=jc 0 (h1.old HBx.out.1 HP.out (by decide));have t12:w2.cell? (jB b 4)=some (jT yo):=jc 4 (h1.old HBx.out.2 HP.out (by decide));have t13:w2.cell? (jA br)=some (.func (.func k2) #[] cap2):=jc 0 (h1.old HBr2.out HP.out (by decide));clear h1 hf hx hq))
 all_goals
  clear hb2 hk4 t11 t12 t13 t21 t22 t23 c2 c3 c4;go_wp2;obtain⟨e1,e2⟩:=j_ (y:=(zz,none)) (p:=none) (l:=0) (c:=0) HS.out HF3.out.1 HF3.out.2 rfl
  refine bodyPost_ret (jH Tryz.results225 _ _ w.heap.size _ _ rfl e1) rfl ?_;rw[<-HG.out,ft HX.out,ft HX2.out,ft (vk HZ.out)];exact e2
end Go.Proofs.YtnfhpdbbfejioaaGreatDoor
