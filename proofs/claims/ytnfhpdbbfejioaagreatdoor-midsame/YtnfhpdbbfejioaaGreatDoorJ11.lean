/- LJ LW LX LY LZ PA HI -/
import Derived.Test.YtnfhpdbbfejioaaGreatDoorJ07
import Derived.Test.YtnfhpdbbfejioaaGreatDoorJ08
set_option linter.unusedVariables false
set_option linter.unusedSimpArgs false
set_option maxRecDepth 100000
set_option maxHeartbeats 16000000
namespace Go.Proofs.YtnfhpdbbfejioaaGreatDoor.Mid
open Go Go.RowKit
variable {R:Nat->Nat}{w W wr:jW}{P a g i c x b n p o q r nt ct:Nat}{s s':Wr}{d v f t el ix th:Tr}{xs:List Tr}{e:List Int}{j l m k:jO}{nm:By}{F:Lf}{u:Unit}
theorem eZ:∀xs:List Tr,mf (chain xs)=xs
 |[]=>rfl
 |x::xs=>by
  show x::mf (chain xs)=_;rw[eZ xs]
theorem fC.al7(h:fC R w P a s)(A:Obj):fC (sK R w.heap.size 7) (w.alloc A) P a s/\R w.heap.size=0:=by
 obtain⟨c,d,f,g,h⟩:=h;have i:R w.heap.size=0:=by
  rcases b8 (R w.heap.size) with e|e
  ·exact e
  ·have:=h.lo w.heap.size (by omega);omega
 have j:∀b,b<w.heap.size->sK R w.heap.size 7 b=R b:=λb k=>if_neg (by omega);have k:Below (P-1) w (w.alloc A):=(eL w A).mono (by have:=h.ltP;omega);obtain⟨l,m,n,o,p,q⟩:=h.part (r:=6) (R':=sK R w.heap.size 7) (w':=w.alloc A) (λb k _ _=>ed k) j (by omega) k;obtain⟨t,u,v,x,y,z⟩:=h.roles j;refine⟨⟨c,d,f,g,⟨by rw[ed h.ltP];exact h.blk,m (by omega),n (by omega),o (by omega),p (by omega),q (by omega),t,u,v,x,y,z,λb B=>sL h ⟨aL h.ltP,by simp⟩ k.size b B,h.ok⟩⟩,i⟩
theorem fC.set7{d:Nat}(h:fC R W P d s){v:jU}(f:R g=7):fC R (W.setCell (jB g i) v) P d s:=by
 obtain⟨l,o,p,r,h⟩:=h;have hk:∀b,R b≠7->(W.setCell (jB g i) v).heap[b]?=W.heap[b]?:=λb u=>aG _ _ _ _ (λe=>u (by rw[show b=g from e];exact f));obtain⟨w,y,z,A⟩:=h.st;obtain⟨n,B,C⟩:=h.m;refine⟨l,o,p,r,(hk P (by rw[h.rP];omega)).trans h.blk,fX h.t (λi D=>hk i (by rw[h.rt i D];omega)),⟨w,y,fX z (λi D=>hk i (by rw[h.rs i D];omega)),λj x a E F=>?_⟩,fX h.p1 (λi D=>hk i (by rw[h.r1 i D];omega)),fX h.p2 (λi D=>hk i (by rw[h.r2 i D];omega)),⟨n,B.kept (hk d (by rw[h.rm];omega)),C⟩,h.rP,h.rt,h.rs,h.r1,h.r2,h.rm,λb u=>⟨(h.lo b u).1,by have:=(h.lo b u).2;simp;omega⟩,h.ok⟩;obtain⟨q,c,e,h2⟩:=A j x a E F;refine⟨q,c,e,?_⟩;rcases h2 with h2|⟨k,G,H,I,J,K⟩
 ·exact .inl h2
 ·exact .inr ⟨k,G,H,I,(hk k (by omega)).trans J,K⟩
theorem fC.none7{d:Nat}(h:fC R W P d s)(f:R g=7):fC (sK R g 0) W P d s:=by
 obtain⟨l,n,o,p,h⟩:=h;have hk:∀b,R b≠7->sK R g 0 b=R b:=λb r=>if_neg (λe=>r (by rw[e];exact f));obtain⟨u,v,w,y⟩:=h.st;refine⟨l,n,o,p,h.blk,h.t,⟨u,v,w,λj x a z A=>?_⟩,h.p1,h.p2,h.m,(hk P (by rw[h.rP];omega)).trans h.rP,λi B=>(hk i (by rw[h.rt i B];omega)).trans (h.rt i B),λi B=>(hk i (by rw[h.rs i B];omega)).trans (h.rs i B),λi B=>(hk i (by rw[h.r1 i B];omega)).trans (h.r1 i B),λi B=>(hk i (by rw[h.r2 i B];omega)).trans (h.r2 i B),(hk d (by rw[h.rm];omega)).trans h.rm,λb r=>?_,h.ok⟩
 ·obtain⟨q,c,e,h2⟩:=y j x a z A;refine⟨q,c,e,?_⟩;rcases h2 with h2|⟨k,C,D,E,F,G⟩
  ·exact .inl h2
  ·exact .inr ⟨k,C,D,(hk k (by omega)).trans E,F,G⟩
 ·refine h.lo b ?_;unfold sK at r;split at r
  ·exact absurd rfl r
  ·exact r
theorem FH(n:Nat)(a:n<=1000000)(w:jW):(Instr.makeSlice 100 (jV (n:Int)) (jV (n:Int))).run Tryz.prog w= .ok (jL (some (jA w.heap.size)) n n) (w.alloc (jC (fI (List.replicate n 0)).toArray 3)):=by
 obtain⟨i,b,c,d,e⟩:=info_parts info3;have:=cQ w 100 3 i _ Tryz.underlying100 b c .i64 .i64 (n:Int) (n:Int) (by omega) (by omega) (by rw[d];simp;omega) (by rw[e];omega) (by omega);rw[d]at this;simp only[aR,sD]at this;exact this
def Rq(a:Tr->Lm Nat)(P:Nat)(R:Nat->Nat)(b:Nat)(c:jW)(n:Nat)(xs:List Tr)(s':Wr)(d:List Int)(i:Nat)(wr:jW):Prop:=
 ∃e f g h,fC e wr P b f/\Lw P R e c wr/\e c.heap.size=7/\wr.heap[c.heap.size]?=some (jC (fI (g++List.replicate (n-i) 0)).toArray 3)/\g.length=i/\lK a (xs.drop i) f=some (h,s')/\d=g++h
theorem Dg{a:Tr->Lm Nat}{d:jW}(h:fC R d P c s)(f:lK a xs s=some (e,s')):Rq a P R c d xs.length xs s' e 0 (d.alloc (jC (fI (List.replicate xs.length 0)).toArray 3)):=by
 obtain⟨h1,g⟩:=h.al7 (jC (fI (List.replicate xs.length 0)).toArray 3);refine⟨_,s,[],e,h1,⟨(h.al _).2.bel,λb i=>if_neg (by omega),λb i _=>ed i⟩,if_pos rfl,heap_alloc_last _ _,rfl,f,rfl⟩
theorem zP{a:Tr->Lm Nat}{x:Tr}{b:Wr}{c:List Int}(d:xs[i]?=some x)(f:lK a (xs.drop i) b=some (c,s')):∃p g rest',a x b=some (p,g)/\lK a (xs.drop (i+1)) g=some (rest',s')/\c=(p:Int)::rest':=by
 have h:=(aK.1 d).1;have e:xs.drop i=x::xs.drop (i+1):=by
  rw[bn h];congr 1;have:=aI h;rw[d]at this;exact(aS this).symm
 rw[e]at f;obtain⟨p,g,h1,h2⟩:=d_ f;obtain⟨j,k,l,m⟩:=d_ h2;injection m with m;injection m with m h5;subst h5;exact⟨p,g,j,h1,l,m.symm⟩
theorem FI(a:List Int)(k:Nat)(p:Int):(fI (a++List.replicate (k+1) 0)).toArray.setIfInBounds a.length (jV p)=(fI ((a++[p])++List.replicate k 0)).toArray:=by
 apply cT;simp[fI,List.set_append,dE]
theorem FJ{a:Tr->Lm Nat}{d:jW}{f:jW}{g R5:Nat->Nat}{j:Wr}{l m:List Int}(o:i<n)(q:Lw P R g d wr)(r:g d.heap.size=7)(hc:wr.heap[d.heap.size]?=some (jC (fI (l++List.replicate (n-i) 0)).toArray 3))(s:l.length=i)(t:fC R5 f P c j)(u:Lw P g R5 wr f)(w:lK a (xs.drop (i+1)) j=some (m,s'))(x:e=l++((p:Int)::m))(y:P<=d.heap.size):
  (∃v,f.cell? (jB d.heap.size i)=some v)/\f.frozen? (jB d.heap.size i)=false/\Rq a P R c d n xs s' e (i+1) (f.setCell (jB d.heap.size i) (jV (p:Int))):=by
 have z:=(aC.1 hc).1;have A:=(u.keep d.heap.size z (.inr (by omega))).trans hc;have B:=(u.role d.heap.size z).trans r;obtain⟨k,hk⟩:∃k,n-i=k+1:=⟨n-i-1,by omega⟩;have C:n-(i+1)=k:=by omega
 refine⟨⟨_,eo (i:=i) A (dv .. |>.trans (by simp[fI];exact aI (by simp;omega)))⟩,ea A i,R5,j,l++[(p:Int)],m,t.set7 B,?_,B,?_,by simp[s],w,by rw[x];simp⟩
 ·have D:=q.trans u;exact⟨D.bel.setCell (p:=(jB d.heap.size i)) (show P-1<=d.heap.size by omega) _,D.role,λb E h=>by rw[aG _ _ _ _ (by show b≠d.heap.size;omega)];exact D.keep b E h⟩
 ·have:=aH f d.heap.size i _ _ (jV (p:Int)) A;rw[this,hk,C,<-s,FI]
theorem Kq{a:Tr->Lm Nat}{d:jW}{ps:List Int}(h:Rq a P R c d n xs s' ps n wr)(e:xs.length=n):∃R',fC R' wr P c s'/\Lw P R R' d wr/\gG R' wr (jL (some (jA d.heap.size)) n n) ps:=by
 obtain⟨f,g,i,k,l,m,o,hc,p,q,r⟩:=h;rw[bg (by omega)]at q;injection q with q;injection q with h1 h2;subst h1 h2;rw[bT]at r;subst r;refine⟨_,l.none7 o,⟨m.bel,λb s=>(if_neg (by omega)).trans (m.role b s),m.keep⟩,some (jA d.heap.size),n,by rw[p],.inr ⟨_,_,rfl,if_pos rfl,hc,λj x t=>?_⟩⟩;rw[cD];simp[fI,t]
theorem Dh{c:Tr->Lm Nat}(d:Ad c){f:Nat}{j k o:IntKind}{a n:Int}{q:By}{l r g:Tr}{v:jU}{t:List Int}(h:fC R w P f s)(u:ej (Lo (P-1)) w (wG j k o 5 a n nm q l r g) v)(z:lK c (mf g) s=some (t,s'))(A:(mf g).length<=1000000):
  aA 212 #[ptr P,v] w (pz P R f w ⟨7,0,0,0,0,0,[],0,nm,t⟩ s'):=by
 obtain⟨b,vl,vr,B,C,D,rfl,E,F⟩:=Ds u;obtain⟨H,I⟩:=h.al o9;obtain⟨J,-,-,K,L⟩:=E (w.alloc o9) I.bel;obtain⟨xs,rfl,M,N⟩:=mS C _ L;rw[eZ]at z A;obtain⟨O,Q,rfl⟩:=eh K;have S:=J.c0;obtain⟨m,T⟩:=aB C.length;have U:(w.alloc (jC #[jV 0,jV 0,jV 0,jV 0,jV 0,jV 0,jT ⟨#[]⟩,jV 0,jT ⟨#[]⟩,jS] 125)).cell? (jB b 7)=some (jL O m Q):=by rw[T];exact J.c7
 obtain⟨V,Y⟩:=aB (w.alloc (jC #[jV 0,jV 0,jV 0,jV 0,jV 0,jV 0,jT ⟨#[]⟩,jV 0,jT ⟨#[]⟩,jS] 125));have Z:=jI Y;have q:V.heap.size=w.heap.size+1:=by rw[Y];simp
 have B:Hid (Lw P R R w V):=Z.out▸I;have D:fC R V P f s:=Z.out▸H;have A0:xs.length=m:=by rw[M,T]
 have A1:=Dg D z;have A2:(fI (List.replicate m 0)).toArray=Array.replicate m (jV 0):=by apply cT;simp[fI]
 rw[A0,A2]at A1;have A3:=FH m (by omega) V;rw[q,A2]at A3;obtain⟨A4,A5⟩:=aB (V.alloc (jC (Array.replicate m (jV 0)) 3));rw[<-A5]at A1;have A6:=jI A1;have A7:Hid (P<=V.heap.size):=by obtain⟨_,_,_,_,A8⟩:=D;exact aL A8.ltP
 have A9:=jI h;obtain⟨B0,B1⟩:∃y:ByteArray,y=⟨nm.toArray⟩:=⟨_,rfl⟩;have B2:Hid (∀W,Below (P-1) w W->W.cell? (jB b 3)=some (jT B0)/\W.cell? (jB b 7)=some (jL O m Q)/\W.ownsRow 0 145 1 (jL O m Q) m C):=λW B3=>by rw[B1,T];exact⟨(E W B3).1.c3,(E W B3).1.c7,(E W B3).2.2.2.1⟩
 have B4:Hid (∀W (i:Nat) (x:Tr) (y:jU),Below (P-1) w W->xs[i]?=some x->C[i]?=some y->ej (Lo (P-1)) W x y):=λW i x y B3 h1 h2=>by
  obtain⟨B5,B6,-,B7⟩:=mS C _ (E W B3).2.2.2.2;have:B5=xs:=by rw[<-eZ B5,<-B6,eZ]
  subst this;exact B7 i x y h1 h2
 have B8:=jI (jN A0 T.symm);obtain⟨G,B9⟩:=aB (pz P R f w ⟨7,0,0,0,0,0,[],0,nm,t⟩ s');have C0:Hid (∀C1 C2,fC C1 C2 P f s'->Lw P R C1 V C2->gG C1 C2 (jL (some ⟨w.heap.size+1,0,none⟩) m m) t->Zc w.heap.size C2/\Qw w.heap.size C2 (jV 7) (jV 0) (jV 0) (jV 0) (jV 0) (jV 0) (jT ⟨#[]⟩) (jV 0) (jT B0) (jL (some ⟨w.heap.size+1,0,none⟩) m m) G):=λC1 C2 C3 C4 C5=>pI A9.out C3 (Z.out▸C4) 7 0 0 0 0 0 0 ⟨#[]⟩ B0 t _ _ _ C5 (by rw[B9,B1]);rw[<-B9];have C6:=jI q;have C7:m<=1000000:=by omega
 clear E u F h B9 J H I K L N z M T B1 A D A1 A0 Z A9 q A2;go_enter Tryz.func212,Tryz.ntmps212
 go_upto_region 1 with fail
 rw[<-Y]at S U⊢;clear Y;have u:(V.alloc (jC (Array.replicate m (jV 0)) 3)).cell? (jB b 7)=some (jL O m Q):=eF U
 go_wp2_with fail
 rw[<-A5];clear A5 A3 u U S
 go_loopw [48] (λv wr=>∃i:Nat,i<=m/\v=jV i/\Hid (Rq c P R f V m xs s' t i wr)) (λv _=>m-(intOf v).toNat)
 case atStart=>exact⟨0,aQ _,rfl,A6⟩
 case round=>
  obtain⟨i,A,rfl,E⟩:=hrel;by_cases F:i<m
  ·obtain⟨x,H⟩:∃x,xs[i]?=some x:=⟨xs[i]'(by have:=B8.out;omega),aI _⟩;obtain⟨y,I⟩:∃y,C[i]?=some y:=⟨C[i]'(by have:=B8.out;omega),aI _⟩;obtain⟨J,K,L,M,C3,C4,N,hc,T,Y,Z⟩:=E.out;obtain⟨p,q,D,z,B6,rfl⟩:=zP H Y;have O:=(B.trans C4).bel;obtain⟨-,U,Q⟩:=B2 wr O;obtain⟨g,S,u,-,-⟩:=Q.form (by omega);injection u with eq1 eq2 eq3;subst eq1;clear eq2 eq3;have A:wr.cell? (jB g i)=some y:=by
    have:=Q.cells (g:=g) rfl i _ I;rw[kw]at this;exact this
   have C:=jI (d J wr P f K q x y p C3 (B4 wr i x y O H I) z);have L:Hid (∀M R5,fC R5 M P f q->Lw P J R5 wr M->(∃v,M.cell? ⟨w.heap.size+1,i,none⟩=some v)/\M.frozen? ⟨w.heap.size+1,i,none⟩=false/\Hid (Rq c P R f V m xs s' t (i+1) (M.setCell ⟨w.heap.size+1,i,none⟩ (jV (p:Int))))):=λM R5 j k=>by
    rw[<-C6.out];exact FJ F C4 N hc T j k B6 Z A7
   clear C3 C4 N hc T Y Z z B6 O U Q H I
   go_wp2_with(go_at_call 163;fail)
   refine C.mono ?_;rintro e M ⟨rfl,R5,D,S⟩;obtain⟨⟨u,d⟩,K,c⟩:=L M R5 D S;clear D S C L A;go_wp2;exact⟨⟨i+1,by omega,by go_num,c⟩,by simp[intOf];omega⟩
  ·obtain rfl:i=m:=by omega
   obtain⟨f,j,k,o⟩:=Kq E B8.out.1;have t:=(B2 wr (B.trans k).bel).1;obtain⟨⟨⟨z,U,V,F,H,I,J,N,T,Y⟩,Z⟩,q,O⟩:=C0 f wr j k (by rw[<-C6.out];exact o);have Q:=Z 0;have u:=Z 1;have d:=Z 2;have A:=Z 3;have C:=Z 4;have K:=Z 5;have L:=Z 6;have M:=Z 7;have D:=Z 8;have S:=Z 9;clear j k o Z C0;go_wp2;refine bodyPost_ret (jk Tryz.results212 _ _ w.heap.size _ _ _ _ _ _ _ _ _ _ rfl q) rfl ?_
   exact O
def oM:Tr->Bool
 | .agg [.lit (.int b c),.lit (.int d a),.lit (.int e n),.lit (.string nm),.lit (.string f),l,r,xs]=>decide ((mf xs).length<=1000000)
 |_=>true
def ui(F:Lf)(t:Tr):Lm Ms:=if oM t=true then ki F t else ln
def mm:Nat->Lf
 |0=>⟨λ_=>ln,λ_=>ln,λ_ _=>ln,λ_ _=>ln⟩
 |g+1=>⟨qZ (mm g),ui (mm g),tq (mm g),tu (mm g)⟩
theorem IY(k:Ad F.V)(I:Ce 215 F.U):PE 212 (ui F):=by
 intro R w P N s s' t v x h f b;unfold ui at b;split at b
 rotate_left
 ·cases b
 rename_i o;unfold ki at b;split at b
 ·rename_i T c L a k3 n nm Z l r g;split at b
  ·rename_i hc;subst hc;obtain⟨p,m,h1,h2⟩:=d_ b;unfold iH at h1;split at h1
   ·rename_i K;injection h1 with h1;injection h1 with h1 i;injection h2 with h2;injection h2 with h2 d;subst h1 h2 i d;exact CD h f K
   ·cases h1
  ·rename_i y;split at b
   ·rename_i hc;subst hc;refine u9 240 (.inl ⟨rfl,rfl⟩) h f (λW R' u j=>?_);obtain⟨M,O,S,Q,rfl,G⟩:=NY k I u j b;refine G.mono ?_;intro e w' C;exact C.ls
   ·rename_i B;split at b
    ·rename_i hc;subst hc;exact u9 241 (.inr ⟨rfl,rfl⟩) h f (λW R' u j=>OD k u j b)
    ·rename_i H;split at b
     ·rename_i hc;subst hc;obtain⟨ps,m,h1,h2⟩:=d_ b;injection h2 with h2;injection h2 with h2 i;subst h2 i;exact Dh k h f h1 (by simpa[oM] using o)
     ·rename_i J;split at b
      ·rename_i hc;subst hc;obtain⟨p,m,h1,h2⟩:=d_ b;injection h2 with h2;injection h2 with h2 i;subst h2 i;exact uZ k 9 (.inl ⟨rfl,rfl⟩) h f h1
      ·rename_i A;split at b
       ·rename_i hc;subst hc;obtain⟨p,m,h1,h2⟩:=d_ b;injection h2 with h2;injection h2 with h2 i;subst h2 i;exact uZ k 10 (.inr ⟨rfl,rfl⟩) h f h1
       ·rename_i E;split at b
        ·rename_i hc;subst hc;obtain⟨p,m,h1,h2⟩:=d_ b;obtain⟨q,Y,i,d⟩:=d_ h2;injection d with d;injection d with d h5;subst d h5;exact DI k h f h1 i
        ·rename_i D;split at b
         ·rename_i hc;subst hc;injection b with b;injection b with d h5;subst d h5;exact zn h f
         ·rename_i z;injection b with b;injection b with d h5;subst d h5;exact Ey h f y B H J A E D z
 ·cases b
theorem vo:∀g,Ad (mm g).V/\PE 212 (mm g).L/\Ce 215 (mm g).U/\Ce 242 (mm g).W
 |0=>⟨λR w P a s s' t v p h b c=>(by cases c),λR w P a s s' t v p h b c=>(by cases c),λR w P a s s' t v e u h b c=>(by cases c),λR w P a s s' t v e u h b c=>(by cases c)⟩
 |g+1=>by
  obtain⟨h1,h2,d,f⟩:=vo g;exact⟨EH h2,IY h1 d,Qd h1 d f,Qe h1 d f⟩
theorem Bq(a:PE 212 F.L){v:jU}(h:fC R w P b s)(c:ej (Lo (P-1)) w t v)(d:lL F p t s=some (q,s')):aA 162 #[ptr P,jV (p:Int),v] w (kR P R b w s'):=by
 obtain⟨x,f,g,i⟩:=d_ d;have j:=a R w P b s f t v x h c g;obtain⟨k,l,m,n,o,r,u,z,A,B⟩:=x;obtain⟨C,D⟩:∃y:ByteArray,y=⟨u.toArray⟩:=⟨_,rfl⟩;obtain⟨E,H⟩:∃y:ByteArray,y=⟨A.toArray⟩:=⟨_,rfl⟩;have I:Hid (aA 212 #[ptr P,v] w (λe w'=>∃J K M,e=jR (.agg #[jV k,jV l,jV m,jV n,jV o,jV r,jT C,jV z,jT E,jL J K M])/\∃R',fC R' w' P b f/\Lw P R R' w w'/\gG R' w' (jL J K M) B)):=by
  rw[D,H];refine j.mono ?_;rintro e w' ⟨J,K,M,N,R',O,Q,S⟩;exact⟨J,K,M,N,R',O,Q,S⟩
 have T:Hid (∀R' W J K M,fC R' W P b f->gG R' W (jL J K M) B->aA 211 #[ptr P,.agg #[jV k,jV l,jV m,jV n,jV o,jV r,jT C,jV z,jT E,jL J K M],jV (p:Int)] W (lR P R' b W (q:Int) s')):=λR' W J K M h1 h2=>by
  rw[D,H];exact sP (x:=⟨k,l,m,n,o,r,u,z,A,B⟩) h1 J K M h2 i
 obtain⟨G,U⟩:=aB (kR P R b w s');have V:=jI U;rw[<-U];clear h c d g i j D H U;go_enter Tryz.func162,Tryz.ntmps162
 go_wp2_with(go_at_call 212;fail)
 refine I.mono ?_;rintro e Y ⟨J,K,M,rfl,Z,a,N,O⟩;have Q:=T Z Y J K M a O;have S:=jI Q;have f:=jI N;clear a N O Q I T
 go_wp2_with(go_at_call 211;fail)
 refine S.mono ?_;rintro e k ⟨rfl,l,m,n⟩;have o:Hid (G (jR (.tuple #[])) k):=by show G _ _;rw[V.out];exact⟨rfl,l,m,f.trans n⟩
 clear m n;go_wp2;go_end0;exact o
structure SmW (w:jW) (g o:Nat) (c a:Int) (yn:ByteArray) (vi vv:jO) (vt ve:jU):Prop where
 c0:w.cell? (jB g o)=some (jV c)
 c2:w.cell? (jB g (o+2))=some (jT yn)
 c3:w.cell? (jB g (o+3))=some (jQ vi)
 c4:w.cell? (jB g (o+4))=some (jQ vv)
 c5:w.cell? (jB g (o+5))=some vt
 c6:w.cell? (jB g (o+6))=some ve
abbrev stk(b d:IntKind)(c a:Int)(nm:By)(e v f el:Tr):Tr:= .agg [.lit (.int b c),.lit (.int d a),.lit (.string nm),e,v,f,el]
def Ke(P:Nat)(w:jW)(g o:Nat)(t:Tr):Prop:=
 ∃(b d:IntKind)(c a:Int)(nm:By)(e v f el:Tr)(h i:jO)(j k:jU)(nt l:Nat)(ts m:jE),t=stk b d c a nm e v f el/\∀W,Below (P-1) w W->SmW W g o c a ⟨nm.toArray⟩ h i j k/\ej (Lo (P-1)) W e (jQ h)/\ej (Lo (P-1)) W v (jQ i)/\fy (Lo (P-1)) W 147 7 j nt ts/\ey (Lo (P-1)) W f ts/\fy (Lo (P-1)) W 147 7 k l m/\ey (Lo (P-1)) W el m
theorem Ke.on(h:Ke P w g o t)(b:Below (P-1) w W):Ke P W g o t:=by
 obtain⟨d,f,c,a,nm,i,v,j,el,k,l,m,n,nt,p,ts,q,e,h⟩:=h;exact⟨d,f,c,a,nm,i,v,j,el,k,l,m,n,nt,p,ts,q,e,λr s=>h r (b.trans s)⟩
theorem Fg(a:Below (P-1) w W):eJ (Lo (P-1)) w W:=λb cs t c _ hc=>by rw[a.block b c];exact hc
theorem Br(B:g<P-1):∀(t:Tr)(cs:jE)(k:Nat),ey (Lo (P-1)) w t cs->(∀j u,cs[j]?=some u->w.cell? (jB g (k*7+j))=some u)->cs.length=(mf t).length*7/\∀i x,(mf t)[i]?=some x->Ke P w g ((k+i)*7) x
 |t,cs,k,h,hc=>by
  unfold ey at h;split at h
  ·rename_i y c l a nm o v r el gg;obtain⟨n,z,m,s,nt,G,ts,E,d,e,M,F,H,N,K,J,D⟩:=h;subst e;obtain⟨I,L⟩:=Br B gg d (k+1) D (λj u q=>by
    have:=hc (7+j) u (by
     show([Value.int .i64 c,jV a,str nm,jQ n,jQ z,m,s]++d)[7+j]?=_;rw[aX (by simp)];simpa using q)
    rw[show(k+1)*7+j=k*7+(7+j) by omega];exact this)
   have C:mf (.slice [.agg [.lit (.int y c),.lit (.int l a),.lit (.string nm),o,v,r,el]] [gg])= .agg [.lit (.int y c),.lit (.int l a),.lit (.string nm),o,v,r,el]::mf gg:=rfl;refine⟨by rw[C];simp only[bh,aZ,I,bN];omega,λi x f=>?_⟩;rw[C]at f;cases i with
   |zero=>
    injection f with f;subst f;rw[cn];refine⟨y,l,c,a,nm,o,v,r,el,n,z,m,s,nt,G,ts,E,rfl,λW A=>?_⟩;have hk:=Fg A;have b:∀j u,([Value.int .i64 c,jV a,str nm,jQ n,jQ z,m,s]++d)[j]?=some u->W.cell? (jB g (k*7+j))=some u:=λj u q=>by
     rw[A.cell (p:=(jB g (k*7+j))) B];exact hc j u q
    exact⟨⟨b 0 _ rfl,b 2 _ rfl,b 3 _ rfl,b 4 _ rfl,b 5 _ rfl,b 6 _ rfl⟩,hk.ex M,hk.ex F,H.kept hk (by decide),ey.kept hk _ _ N,K.kept hk (by decide),ey.kept hk _ _ J⟩
   |succ i=>
    have:=L i x (by simpa using f);rw[show k+(i+1)=k+1+i by omega];exact this
  ·subst h;exact⟨rfl,λi x f=>by cases f⟩
  ·exact h.elim
theorem Fh{v:jU}{cs:jE}(a:fy (Lo (P-1)) w 147 7 v n cs)(b:ey (Lo (P-1)) w t cs):n=(mf t).length/\n<=9223372036854775807/\((v=jS/\n=0)\/∃g c,v=jL (some (jA g)) n c/\n<=c/\g<P-1/\∀i x,(mf t)[i]?=some x->Ke P w g (i*7) x):=by
 have d:=a.1.1;rcases a.1.2 with⟨rfl,f⟩|⟨g,c,h,rfl,k,l,m,o,p,q⟩
 ·subst f;have:cs=[]:=bS.1 (by omega);subst this;have r:mf t=[]:=by
   unfold ey at b;split at b
   ·obtain⟨_,_,_,_,_,_,_,_,_,e,_⟩:=b;simp at e
   ·rfl
   ·exact b.elim
  exact⟨by rw[r];rfl,by omega,.inl ⟨rfl,rfl⟩⟩
 ·have s:g<P-1:=a.2 g rfl;obtain⟨y,z⟩:=Br s t cs 0 b (λj u r=>by
   have:=a.1.cells (g:=g) rfl j u r;rw[kw]at this;simpa using this)
  refine⟨by omega,by unfold maxLen at o;omega,.inr ⟨g,c,rfl,m,s,λi x A=>?_⟩⟩;have:=z i x A;rw[bQ]at this;exact this
def TP(S:Tr->Lm Unit):Prop:=∀(R:Nat->Nat)(w:jW)(P a:Nat)(s s':Wr)(t:Tr)(g o:Nat)(u:Unit),fC R w P a s->Ke P w g o t->S t s=some (u,s')->aA 108 #[ptr P,jQ (some (jB g o))] w (kR P R a w s')
def Ri(S:Tr->Lm Unit):Prop:=∀(R:Nat->Nat)(w:jW)(P a:Nat)(s s':Wr)(t:Tr)(v:jU)(n:Nat)(cs:jE)(u:Unit),fC R w P a s->fy (Lo (P-1)) w 147 7 v n cs->ey (Lo (P-1)) w t cs->lX S (mf t) s=some (u,s')->aA 69 #[ptr P,v] w (kR P R a w s')
theorem Fi{S:Tr->Lm Unit}{x:Tr}{a:Wr}(b:xs[i]?=some x)(c:lX S (xs.drop i) a=some (u,s')):∃v d,S x a=some (v,d)/\lX S (xs.drop (i+1)) {d with u1:=0,u2:=0}=some (u,s'):=by
 have f:=(aK.1 b).1;have e:xs.drop i=x::xs.drop (i+1):=by
  rw[bn f];congr 1;have:=aI f;rw[b]at this;exact(aS this).symm
 rw[e]at c;obtain⟨p,d,h1,h2⟩:=d_ c;obtain⟨g,h,j,k⟩:=d_ h2;injection j with j;injection j with _ j;subst j;exact⟨p,d,h1,k⟩
theorem uH{S:Tr->Lm Unit}(c:TP S):Ri S:=by
 intro R w P d s s' t v n cs u h f j k;obtain⟨l,m,o⟩:=Fh f j;have p:Hid (∀W,Below (P-1) w W->fy (Lo (P-1)) W 147 7 v n cs/\ey (Lo (P-1)) W t cs):=λW q=>⟨f.kept (Fg q) (by decide),ey.kept (Fg q) _ _ j⟩;have r:=jI l;have z:Hid (∃A B,fC A w P d B/\Lw P R A w w/\lX S ((mf t).drop 0) B=some (u,s')):=⟨R,s,h,Lw.refl _ _ _,k⟩;obtain⟨G,C⟩:=aB (kR P R d w s');have D:=jI C;rw[<-C];have E:=eh f.1;have F:Hid (0<n->∃g H,v=jL (some (jA g)) n H/\n<=H/\g<P-1/\∀i x,(mf t)[i]?=some x->Ke P w g (i*7) x):=λI=>by
  rcases o with⟨_,e⟩|o
  ·omega
  ·exact o
 obtain⟨J,cv,rfl⟩:=E;clear C h f j k l o;go_enter Tryz.func69,Tryz.ntmps69
 go_wp2_with fail
 go_loopw [7] (λv wr=>∃i:Nat,i<=n/\v=jV i/\Hid (∃A B,fC A wr P d B/\Lw P R A w wr/\lX S ((mf t).drop i) B=some (u,s'))) (λv _=>n-(intOf v).toNat)
 case atStart=>exact⟨0,aQ _,rfl,z⟩
 case round=>
  obtain⟨i,K,rfl,L⟩:=hrel;by_cases M:i<n
  ·obtain⟨g,H,e,N,O,Q⟩:=F (by omega);injection e with T U e3;subst T;clear U e3;obtain⟨x,V⟩:∃x,(mf t)[i]?=some x:=⟨(mf t)[i]'(by have:=r.out;omega),aI _⟩;obtain⟨A,B,Y,Z,m⟩:=L.out;obtain⟨y,p,T,U⟩:=Fi V m;have q:=jI (c A wr P d B p x g (i*7) y Y ((Q i x V).on Z.bel) T);have I:Hid (∀f R5,fC R5 f P d p->Lw P A R5 wr f->((∃j k l,f.cell? (jB P 6)=some j/\f.cell? (jB P 7)=some k/\f.cell? (jB P 8)=some l)/\f.frozen? (jB P 6)=false/\f.frozen? (jB P 7)=false/\f.frozen? (jB P 8)=false)/\Hid (∃A B,fC A (((f.setCell (jB P 6) (jV 0)).setCell (jB P 7) (jV 0)).setCell (jB P 8) (jV 0)) P d B/\Lw P R A w (((f.setCell (jB P 6) (jV 0)).setCell (jB P 7) (jV 0)).setCell (jB P 8) (jV 0))/\lX S ((mf t).drop (i+1)) B=some (u,s'))):=λf R5 o z=>by
    obtain⟨C,E⟩:=rU (a:=0) (b:=0) o (Z.trans z) (by omega) (by omega);obtain⟨_,_,_,_,J⟩:=o;exact⟨⟨⟨_,_,_,jc 6 J.blk,jc 7 J.blk,jc 8 J.blk⟩,ea J.blk 6,ea J.blk 7,ea J.blk 8⟩,R5,_,C,E,U⟩
   clear Y Z m T U Q V
   go_wp2_with(go_at_call 108;fail)
   refine q.mono ?_;rintro e f ⟨rfl,R5,K,H⟩;obtain⟨⟨⟨j,k,l,M,N,O⟩,F,c,p⟩,d⟩:=I f R5 K H;clear K H q I;go_wp2;exact⟨⟨i+1,by omega,by go_num,d⟩,by simp[intOf];omega⟩
  ·obtain rfl:i=n:=by omega
   obtain⟨A,B,Y,Z,m⟩:=L.out;rw[bg (by have:=r.out;omega)]at m;injection m with m;injection m with h1 h2;subst h2;have z:Hid (G (jR (.tuple #[])) wr):=by show G _ _;rw[D.out];exact⟨rfl,A,Y,Z⟩
   clear Y Z;go_wp2;go_end0;exact z
structure DO (P:Nat) (w:jW) (g o:Nat) (c:Int) (yn:ByteArray) (ix v th el:Tr) (vi vv:jO) (qt:jO) (nt ct:Nat) (qe:jO) (ne ce':Nat):Prop where
 c0:w.cell? (jB g o)=some (jV c)
 c2:w.cell? (jB g (o+2))=some (jT yn)
 c3:w.cell? (jB g (o+3))=some (jQ vi)
 c4:w.cell? (jB g (o+4))=some (jQ vv)
 c5:w.cell? (jB g (o+5))=some (jL qt nt ct)
 c6:w.cell? (jB g (o+6))=some (jL qe ne ce')
 xi:ej (Lo (P-1)) w ix (jQ vi)
 xv:ej (Lo (P-1)) w v (jQ vv)
 rt:∃ts,fy (Lo (P-1)) w 147 7 (jL qt nt ct) nt ts/\ey (Lo (P-1)) w th ts
 re:∃es,fy (Lo (P-1)) w 147 7 (jL qe ne ce') ne es/\ey (Lo (P-1)) w el es
theorem Ke.opn(h:Ke P w g o t):∃(b d:IntKind)(c a:Int)(nm:By)(f v i el:Tr)(j k:jO)(l:jO)(nt m:Nat)(n:jO)(p ce':Nat),t=stk b d c a nm f v i el/\∀W,Below (P-1) w W->DO P W g o c ⟨nm.toArray⟩ f v i el j k l nt m n p ce':=by
 obtain⟨b,d,c,a,nm,f,v,i,el,j,k,q,r,nt,p,ts,s,e,h⟩:=h;obtain⟨-,-,-,u,-,x,-⟩:=h w (aJ _ _);obtain⟨l,m,rfl⟩:=eh u.1;obtain⟨n,ce',rfl⟩:=eh x.1;refine⟨b,d,c,a,nm,f,v,i,el,j,k,l,nt,m,n,p,ce',e,λW y=>?_⟩;obtain⟨h1,h2,z,u,A,x,B⟩:=h W y;exact⟨h1.c0,h1.c2,h1.c3,h1.c4,h1.c5,h1.c6,h2,z,⟨_,u,A⟩,⟨_,x,B⟩⟩
theorem MC{l:Nat}(h:fC R w P a s)(b:gX {fd with code:=4,label:=(l:Int)} s=some (u,s')):aA 70 #[ptr P,.agg #[jV 4,jV 0,jV 0,jV 0,jV 0,jV 0,jT ⟨#[]⟩,jV (l:Int),jT ⟨#[]⟩,jS]] w (kR P R a w s'):=ny 4 0 0 0 0 0 ⟨#[]⟩ (l:Int) ⟨#[]⟩ [] none 0 0 h (gG.none _ _) b
theorem Ko{S:Tr->Lm Unit}(a:Ce 215 F.U)(b:Ri S){d:Nat}{c:Int}{f:ByteArray}{i j:Tr}{p:jO}(h:fC R w P d s)(t:∀W,Below (P-1) w W->DO P W g o c f i v j el k l m nt n p q r)(x:tA F S v (mf j) s=some (u,s')):
  aA 165 #[ptr P,jQ (some (jB g o))] w (kR P R d w s'):=by
 obtain⟨y,z,A,x⟩:=d_ x;obtain⟨B,C,D,x⟩:=d_ x;obtain⟨E,H,I,x⟩:=d_ x;obtain⟨J,K,L,x⟩:=d_ x;obtain⟨M,N,O,x⟩:=d_ x;obtain⟨Q,T,V,Y⟩:=d_ x;have Z:=jI t;have f:=jI (kg h A);obtain⟨G,i⟩:=aB (kR P R d w s');have k:=jI i;rw[<-i];clear i h t;go_enter Tryz.func165,Tryz.ntmps165
 go_wp2_with(go_at_call 214;fail)
 refine f.mono ?_;rintro e w1 ⟨rfl,l,m,n⟩;have p:=jI n;have q:=jI (kg m D);clear m n f
 go_wp2_with(go_at_call 214;fail)
 refine q.mono ?_;rintro e r ⟨rfl,y,z,C⟩;have E:=jI (p.trans C);have Q:=jI (lH z I);clear z C q
 go_wp2_with(go_at_call 216;fail)
 refine Q.mono ?_;rintro e T ⟨rfl,x,A,t⟩;have i:=jI (E.trans t);have l:=Z T i.bel;have D:=l.c4;have f:=jI (a x T P d H K v _ B J A l.xv L);clear A t Q l
 go_wp2_with(go_at_call 215;fail)
 clear D;refine f.mono ?_;rintro e m ⟨rfl,R4,n,r⟩;have y:=jI (i.trans r);have l:=Z m y.bel;have p:=l.c5;obtain⟨ts,I,q⟩:=l.rt;have z:=jI (b R4 m P d K N j _ nt ts M n I q O);clear n r f l I q
 go_wp2_with(go_at_call 69;fail)
 clear p;refine z.mono ?_;rintro e C ⟨rfl,R5,E,a⟩;have B:=jI (y.trans a);have H:=jI (MC E V);clear E a z
 go_wp2_with(go_at_call 70;fail)
 refine H.mono ?_;rintro e J ⟨rfl,L,Q,T⟩;have x:=jI (B.trans T);have A:=jI (lH Q Y);clear Q T H
 go_wp2_with(go_at_call 216;fail)
 refine A.mono ?_;rintro e t ⟨rfl,D,Z,i⟩;have b:Hid (G (jR (.tuple #[])) t):=by show G _ _;rw[k.out];exact⟨rfl,D,Z,x.trans i⟩
 clear Z i;go_wp2;go_end0;exact b
theorem Df{S:Tr->Lm Unit}(hU:Ce 215 F.U)(hB:Ri S){D:Nat}{c:Int}{yn:ByteArray}{vi vv:jO}{qt:jO}{qe:jO}{K A9:Nat}(h:fC R w P D s)(hx:∀W,Below (P-1) w W->DO P W g o c yn ix v th el vi vv qt nt ct qe K A9)(b:lM F S v (mf th) (mf el) s=some (u,s')):
  aA 164 #[ptr P,jQ (some (jB g o))] w (kR P R D w s'):=by
 obtain⟨lo,s1,e1,b⟩:=d_ b;obtain⟨u2,s2,e2,b⟩:=d_ b;obtain⟨u3,s3,e3,b⟩:=d_ b;have E:=jI hx;have C:K=(mf el).length:=by
  obtain⟨es,d,f⟩:=(hx w (aJ _ _)).re;exact(Fh d f).1
 have B:=jI (kg h e1);obtain⟨G,hG⟩:=aB (kR P R D w s');have HG:=jI hG;have B4:=jI C;rw[<-hG];clear hG h hx;have H:(K=0/\jt lo s3=some (u,s'))\/(0<K/\∃I Y u5 O u6 J u7 L,gY s3=some (I,Y)/\gX {fd with code:=4,label:=(I:Int)} Y=some (u5,O)/\jt lo O=some (u6,J)/\lX S (mf el) J=some (u7,L)/\jt I L=some (u,s')):=by
  split at b
  ·rename_i he;exact .inl ⟨by rw[C,he];rfl,b⟩
  ·rename_i he;obtain⟨I,Y,d,b⟩:=d_ b;obtain⟨u5,O,f,b⟩:=d_ b;obtain⟨u6,J,k3,b⟩:=d_ b;obtain⟨u7,L,k4,k5⟩:=d_ b;exact .inr ⟨by rw[C];exact cG.2 he,I,Y,u5,O,u6,J,u7,L,d,f,k3,k4,k5⟩
 clear b C;rcases H with⟨rfl,e4⟩|⟨B3,I,Y,u5,O,u6,J,u7,L,e4,e5,e6,e7,e8⟩
 ·go_enter Tryz.func164,Tryz.ntmps164
  go_wp2_with(go_at_call 214;fail)
  refine B.mono ?_;rintro e w1 ⟨rfl,R1,k,x⟩;have n:=jI x;have a:=E w1 n.bel;have c4:=a.c4;have l:=jI (hU R1 w1 P D s1 s2 v _ lo u2 k a.xv e2);clear k x B a
  go_wp2_with(go_at_call 215;fail)
  clear c4;refine l.mono ?_;rintro e V ⟨rfl,R2,r,y⟩;have m:=jI (n.trans y);have a:=E V m.bel;have c5:=a.c5;obtain⟨ts,d,f⟩:=a.rt;have t:=jI (hB R2 V P D s2 s3 th _ nt ts u3 r d f e3);clear r y l a d f
  go_wp2_with(go_at_call 69;fail)
  clear c5;refine t.mono ?_;rintro e w3 ⟨rfl,R3,z,j⟩;have i:=jI (m.trans j);have c6:=(E w3 i.bel).c6;have A:=jI (lH z e4);clear z j t
  go_wp2_with(go_at_call 216;fail)
  clear c6;refine A.mono ?_;rintro e w4 ⟨rfl,R4,p,q⟩;have HE:Hid (G (jR (.tuple #[])) w4):=by show G _ _;rw[HG.out];exact⟨rfl,R4,p,i.trans q⟩
  clear p q;go_wp2;go_end0;exact HE
 ·have B2:(0:Int)<(K:Int):=by omega
  go_enter Tryz.func164,Tryz.ntmps164
  go_wp2_with(go_at_call 214;fail)
  refine B.mono ?_;rintro e w1 ⟨rfl,R1,k,x⟩;have n:=jI x;have a:=E w1 n.bel;have c4:=a.c4;have l:=jI (hU R1 w1 P D s1 s2 v _ lo u2 k a.xv e2);clear k x B a
  go_wp2_with(go_at_call 215;fail)
  clear c4;refine l.mono ?_;rintro e V ⟨rfl,R2,r,y⟩;have m:=jI (n.trans y);have a:=E V m.bel;have c5:=a.c5;obtain⟨ts,d,f⟩:=a.rt;have t:=jI (hB R2 V P D s2 s3 th _ nt ts u3 r d f e3);clear r y l a d f
  go_wp2_with(go_at_call 69;fail)
  clear c5;refine t.mono ?_;rintro e w3 ⟨rfl,R3,z,j⟩;have i:=jI (m.trans j);have c6:=(E w3 i.bel).c6;have A:=jI (kg z e4);clear z j t
  go_wp2_with(go_at_call 214;fail)
  clear c6;refine A.mono ?_;rintro e w4 ⟨rfl,R4,p,q⟩;have A8:=jI (i.trans q);have A1:=jI (MC p e5);clear p q A
  go_wp2_with(go_at_call 70;fail)
  refine A1.mono ?_;rintro e w5 ⟨rfl,R5,A5,A4⟩;have A7:=jI (A8.trans A4);have N:=jI (lH A5 e6);clear A5 A4 A1
  go_wp2_with(go_at_call 216;fail)
  refine N.mono ?_;rintro e w6 ⟨rfl,R6,M,A6⟩;have A0:=jI (A7.trans A6);have a:=E w6 A0.bel;have c6:=a.c6;obtain⟨es,d,f⟩:=a.re;have A2:=jI (hB R6 w6 P D J L el _ K es u7 M d f e7);clear M A6 N a d f
  go_wp2_with(go_at_call 69;fail)
  clear c6;refine A2.mono ?_;rintro e w7 ⟨rfl,R7,Z,Q⟩;have B0:=jI (A0.trans Q);have B1:=jI (lH Z e8);clear Z Q A2
  go_wp2_with(go_at_call 216;fail)
  refine B1.mono ?_;rintro e w8 ⟨rfl,R8,T,A3⟩;have HE:Hid (G (jR (.tuple #[])) w8):=by show G _ _;rw[HG.out];exact⟨rfl,R8,T,B0.trans A3⟩
  clear T A3;go_wp2;go_end0;exact HE
def Kn{α:Type}(x:Lm α):Prop:=∀s a s',x s=some (a,s')->s'.nm=s.nm
theorem fO{α c:Type}{x:Lm α}{f:α->Lm c}(d:Kn x)(e:∀a,Kn (f a)):Kn (lb x f):=λs b s' h=>by
 obtain⟨a,g,h1,h2⟩:=d_ h;exact(e a g b s' h2).trans (d s a g h1)
theorem lN{α:Type}(a:α):Kn (lp a):=λs b s' h=>by injection h with h;injection h with _ h;rw[h]
theorem pZ{α:Type}:Kn (ln:Lm α):=λs b s' h=>by cases h
theorem lZ(x:Ms):Kn (gX x):=λs b s' h=>by obtain⟨_,_,rfl⟩:=uU h;rfl
theorem KC(k:Int):Kn (nX k):=λs b s' h=>by
 unfold nX at h;split at h
 ·rcases sU h with⟨_,_,_,rfl⟩|⟨_,_,rfl⟩<;>rfl
 ·split at h
  ·rcases pc h with⟨_,_,_,rfl⟩|⟨_,_,rfl⟩<;>rfl
  ·cases h
theorem yj:Kn h_:=λs b s' h=>by rcases pc h with⟨_,_,_,rfl⟩|⟨_,_,rfl⟩<;>rfl
theorem r6(a b:Nat):Kn (lB a b):=λs x s' h=>by injection h with h;injection h with _ h;rw[<-h]
theorem BK:Kn kO:=λs b s' h=>by
 unfold kO at h;split at h
 ·injection h with h;injection h with _ h;rw[h]
 ·split at h
  ·injection h with h;injection h with _ h;rw[<-h]
  ·cases h
theorem tH:Kn gY:=λs b s' h=>by obtain⟨_,_,rfl⟩:=ry h;rfl
theorem BL(x:By):Kn (iH x):=λs b s' h=>by
 unfold iH at h;split at h
 ·injection h with h;injection h with _ h;rw[h]
 ·cases h
theorem KD(c:Int)(x:By):Kn (kQ c x):=λs b s' h=>by obtain⟨rfl,_⟩:=mU h;rfl
theorem Gy(x:Ms)(p:Nat):Kn (pV x p):=by
 unfold pV;split
 ·exact lN _
 ·exact fO (lZ _) λ_=>lN _
theorem BM{a:Tr->Lm Nat}(b:∀t,Kn (a t)):∀xs,Kn (lK a xs)
 |[]=>lN _
 |x::xs=>fO (b x) λ_=>fO (BM b xs) λ_=>lN _
structure KE (F:Lf):Prop where
 V:∀t,Kn (F.V t)
 L:∀t,Kn (F.L t)
 U:∀t e,Kn (F.U t e)
 W:∀t e,Kn (F.W t e)
theorem Pd(h:KE F)(t:Tr):Kn (qZ F t):=by
 unfold qZ;split
 ·split
  ·exact BL _
  ·exact λs=>(fO (h.L _) λ_=>fO (r6 s.u1 s.u2) λ_=>fO (KD _ _) λ_=>fO (KC _) λ_=>Gy _ _) s
 ·exact pZ
theorem Pe(h:KE F)(t:Tr):Kn (ui F t):=by
 unfold ui;split
 ·unfold ki;split
  ·split
   ·exact fO (BL _) λ_=>lN _
   split
   ·unfold tj;split
    ·exact fO yj λ_=>fO tH λ_=>fO (lZ _) λ_=>fO (h.U _ _) λ_=>fO (lZ _) λ_=>fO (lZ _) λ_=>lN _
    ·exact fO (h.V _) λ_=>fO (h.V _) λ_=>lN _
   split
   ·exact fO (h.V _) λ_=>fO BK λ_=>lN _
   split
   ·exact fO (BM h.V _) λ_=>lN _
   split
   ·exact fO (h.V _) λ_=>lN _
   split
   ·exact fO (h.V _) λ_=>lN _
   split
   ·exact fO (h.V _) λ_=>fO (h.V _) λ_=>lN _
   split
   ·exact lN _
   ·exact lN _
  ·exact pZ
 ·exact pZ
theorem Pf(h:KE F)(t:Tr)(e:Nat):Kn (tq F t e):=by
 unfold tq;split
 ·refine λs=>(fO ?_ λ_=>r6 s.u1 s.u2) s;split
  ·exact h.W _ _
  split
  ·exact fO (h.U _ _) λ_=>h.U _ _
  split
  ·exact fO tH λ_=>fO (h.W _ _) λ_=>fO (h.U _ _) λ_=>lZ _
  ·exact fO (h.V _) λ_=>lZ _
 ·exact pZ
theorem Pg(h:KE F)(t:Tr)(e:Nat):Kn (tu F t e):=by
 unfold tu;split
 ·refine λs=>(fO ?_ λ_=>r6 s.u1 s.u2) s;split
  ·exact h.U _ _
  split
  ·exact fO (h.W _ _) λ_=>h.W _ _
  split
  ·exact fO tH λ_=>fO (h.U _ _) λ_=>fO (h.W _ _) λ_=>lZ _
  ·exact fO (h.V _) λ_=>fO (r6 _ _) λ_=>fO yj λ_=>fO BK λ_=>fO (lZ _) λ_=>lZ _
 ·exact pZ
theorem tI:∀g,KE (mm g)
 |0=>⟨λ_=>pZ,λ_=>pZ,λ_ _=>pZ,λ_ _=>pZ⟩
 |g+1=>⟨Pd (tI g),Pe (tI g),Pf (tI g),Pg (tI g)⟩
theorem KF{B:Nat}{w':jW}{row:Option Nat}(h:w.grownBy w' row)(a:B<=w.heap.size)(c:∀k,row=some k->B<=k):Below B w w':=
 ⟨h.os,h.tape,h.output,h.size,λb d=>h.block b (by omega) (λe=>by have:=c b e.symm;omega)⟩
theorem Wc.bind{w:World}{mb:Nat}{a c d f:Value}(h:Wc R w P mb a c d f s)(x:By)(p:Nat)(i:x.length<=1000)(j:s.nm.length<100000)(l:p<100000):∃w',(Instr.mapUpdate 92 (.map (some mb)) (.string ⟨x.toArray⟩) (jV (p:Int))).run Tryz.prog w= .ok () w'/\Wc R w' P mb a c d f {s with nm:=(x,p)::s.nm}/\Lw P R R w w':=by
 obtain⟨n,o,q⟩:=h.m;have hk:keyOf Tryz.prog 9 (.string ⟨x.toArray⟩)=some (.string x):=by
  have:=rI ⟨x.toArray⟩ (by simp[ByteArray.size];omega);simpa using this
 obtain⟨w',t,u,v⟩:=o.put IM MR (by omega) hk trivial (jV (p:Int)) (g:=TA ((x,p)::s.nm)) (by show(((x,p)::s.nm).lookup x).map _=_;simp[List.lookup]) (λy A=>by
  cases y with
  |string z=>
   have B:z≠x:=λe=>A (by rw[e]);show(((x,p)::s.nm).lookup z).map _=(s.nm.lookup z).map _;have:(z==x)=false:=by simpa using B
   simp[List.lookup,this]
  |_=>rfl)
 have C:P-1<=mb:=(h.lo mb (by rw[h.rm];omega)).1;have D:Below (P-1) w w':=KF v (by have:=h.ltP;omega) (λk e=>by have E:mb=k:=aS e;omega);obtain⟨F,G,H,I,J,K⟩:=h.part (r:=5) (R':=R) (w':=w') (λb D h1 _=>v.block b D (λe=>h1 (by have E:b=mb:=aS e;rw[E];exact h.rm))) (λ_ _=>rfl) (by omega) D;have L:w'.heap[P]?=w.heap[P]?:=v.block P h.ltP (λe=>by have E:P=mb:=aS e;have h1:=h.rP;have h2:=h.rm;rw[<-E]at h2;omega);refine⟨w',t,⟨L.trans h.blk,G (by omega),H (by omega),I (by omega),J (by omega),⟨_,u,?_⟩,h.rP,h.rt,h.rs,h.r1,h.r2,h.rm,λb M=>⟨(h.lo b M).1,aO (h.lo b M).2 D.size⟩,?_⟩,F⟩
 ·show _<=((x,p)::s.nm).length;simp only[aZ];split<;>omega
 ·have N:=h.ok;exact⟨N.ts,N.ss,N.p1,N.p2,by show((x,p)::s.nm).length<=100000;simp only[aZ];omega,N.lb,N.u1,N.u2,N.oks,N.okt,N.s1,N.s2,N.no,λy A=>by
   rcases aY.1 A with rfl|A
   ·exact l
   ·exact N.nms y A⟩
theorem tJ{x:By}(h:lJ x p s=some (u,s')):s.nm.length<100000/\x.length<=1000/\p<100000/\s'={s with nm:=(x,p)::s.nm}:=by
 unfold lJ at h;split at h
 ·rename_i hc;injection h with h;injection h with _ h;exact⟨hc.1,hc.2.1,hc.2.2,h.symm⟩
 ·cases h
theorem mQ{x:By}(h:iH x s=some (p,s')):x.length<=1000/\p=nG s.nm x/\s'=s:=by
 unfold iH at h;split at h
 ·rename_i a;injection h with h;injection h with h1 h2;exact⟨a,h1.symm,h2.symm⟩
 ·cases h
theorem uP{v:jU}{k:Int}(h:fC R w P a s)(b:ej (Lo (P-1)) w t v)(hk:pW t s=some (k,s')):aA 161 #[ptr P,v] w (lR P R a w k s')/\s'=s:=by
 unfold pW at hk;split at hk
 ·obtain⟨rfl,_⟩:=mU hk;exact⟨yE h b hk,rfl⟩
 ·cases hk
theorem UB(b:Ad F.V){d:ByteArray}{i:Tr}{m:Nat}{n:jO}(h:fC R w P c s)(t:∀W,Below (P-1) w W->DO P W g o 6 d f v i el j k l nt m n q r){x:Wr}(y:F.V v s=some (p,x))(z:gX {fd with code:=8,a:=(p:Int)} x=some (u,s')):
  aA 108 #[ptr P,jQ (some (jB g o))] w (kR P R c w s'):=by
 have A:=jI t;obtain⟨G,B⟩:=aB (kR P R c w s');have C:=jI B;have D:=t w (aJ _ _);have E:=D.c0;have H:=D.c2;have I:=D.c3;have J:=D.c4;have K:=D.xv;have L:=D.xi;rw[<-B];clear D t B;have M:=jI (b R w P c s x v _ p h K y);clear h K L y H I;go_enter Tryz.func108,Tryz.ntmps108
 go_wp2_with(go_at_call 163;fail)
 clear E J;refine M.mono ?_;rintro e w1 ⟨rfl,N,O,Q⟩;have S:=jI Q;have T:=jI (ny 8 0 (p:Int) 0 0 0 ⟨#[]⟩ 0 ⟨#[]⟩ [] none 0 0 O (gG.none _ _) z);clear O Q M
 go_wp2_with(go_at_call 70;fail)
 refine T.mono ?_;rintro e U ⟨rfl,Y,Z,d⟩;have f:Hid (G (jR (.tuple #[])) U):=by show G _ _;rw[C.out];exact⟨rfl,Y,Z,S.trans d⟩
 clear Z d;go_wp2;go_end0;exact f
theorem UC(b:Ad F.V){d:ByteArray}{i:Tr}{m:Nat}{n:jO}(h:fC R w P c s)(t:∀W,Below (P-1) w W->DO P W g o 7 d f v i el j k l nt m n q r){x:Wr}(y:F.V v s=some (p,x))(z:gX {fd with code:=13,a:=(p:Int)} x=some (u,s')):
  aA 108 #[ptr P,jQ (some (jB g o))] w (kR P R c w s'):=by
 have A:=jI t;obtain⟨G,B⟩:=aB (kR P R c w s');have C:=jI B;have D:=t w (aJ _ _);have E:=D.c0;have H:=D.c2;have I:=D.c3;have J:=D.c4;have K:=D.xv;have L:=D.xi;rw[<-B];clear D t B;have M:=jI (b R w P c s x v _ p h K y);clear h K L y H I;go_enter Tryz.func108,Tryz.ntmps108
 go_wp2_with(go_at_call 163;fail)
 clear E J;refine M.mono ?_;rintro e w1 ⟨rfl,N,O,Q⟩;have S:=jI Q;have T:=jI (ny 13 0 (p:Int) 0 0 0 ⟨#[]⟩ 0 ⟨#[]⟩ [] none 0 0 O (gG.none _ _) z);clear O Q M
 go_wp2_with(go_at_call 70;fail)
 refine T.mono ?_;rintro e U ⟨rfl,Y,Z,d⟩;have f:Hid (G (jR (.tuple #[])) U):=by show G _ _;rw[C.out];exact⟨rfl,Y,Z,S.trans d⟩
 clear Z d;go_wp2;go_end0;exact f
theorem UD(a:Ad F.V){c:ByteArray}{i:jO}{l:Nat}{u:Unit}(h:fC R w P b s)(r:∀W,Below (P-1) w W->DO P W g o 8 c d v f el i j k nt l m n q)(t:F.V v s=some (p,s')):
  aA 108 #[ptr P,jQ (some (jB g o))] w (kR P R b w s'):=by
 have x:=jI r;obtain⟨G,y⟩:=aB (kR P R b w s');have z:=jI y;have A:=r w (aJ _ _);have B:=A.c0;have C:=A.c2;have D:=A.c3;have E:=A.c4;have H:=A.xv;have I:=A.xi;rw[<-y];clear A r y;have J:=jI (a R w P b s s' v _ p h H t);have K:Hid (Lw P R R w w):=Lw.refl _ _ _;clear h H I t C D;go_enter Tryz.func108,Tryz.ntmps108
 go_wp2_with(go_at_call 163;fail)
 clear B E;refine J.mono ?_;rintro e w1 ⟨rfl,L,M,N⟩;have O:Hid (G (jR (.tuple #[])) w1):=by show G _ _;rw[z.out];exact⟨rfl,L,M,K.trans N⟩
 clear M N;go_wp2;go_end0;exact O
theorem Lx{b:ByteArray}{c:Tr}{f i:jO}{k:Nat}{m:Nat}{u:Unit}(h:fC R w P a s)(p:∀W,Below (P-1) w W->DO P W g o 4 b c v d el f i j nt k l m n)(q:aA 164 #[ptr P,jQ (some (jB g o))] w (kR P R a w s')):
  aA 108 #[ptr P,jQ (some (jB g o))] w (kR P R a w s'):=by
 have r:=jI p;obtain⟨G,t⟩:=aB (kR P R a w s');have x:=jI t;have y:=p w (aJ _ _);have z:=y.c0;have A:=y.c2;have B:=y.c3;have C:=y.c4;have D:=y.xv;have E:=y.xi;rw[<-t];clear y p t;have F:=jI q;have H:Hid (Lw P R R w w):=Lw.refl _ _ _;clear h D E q A B C;go_enter Tryz.func108,Tryz.ntmps108
 go_wp2_with(go_at_call 164;fail)
 clear z;refine F.mono ?_;rintro e w1 ⟨rfl,I,J,K⟩;have L:Hid (G (jR (.tuple #[])) w1):=by show G _ _;rw[x.out];exact⟨rfl,I,J,H.trans K⟩
 clear J K;go_wp2;go_end0;exact L
theorem Lv{b:ByteArray}{c:Tr}{f i:jO}{k:Nat}{m:Nat}{u:Unit}(h:fC R w P a s)(p:∀W,Below (P-1) w W->DO P W g o 5 b c v d el f i j nt k l m n)(q:aA 165 #[ptr P,jQ (some (jB g o))] w (kR P R a w s')):
  aA 108 #[ptr P,jQ (some (jB g o))] w (kR P R a w s'):=by
 have r:=jI p;obtain⟨G,t⟩:=aB (kR P R a w s');have x:=jI t;have y:=p w (aJ _ _);have z:=y.c0;have A:=y.c2;have B:=y.c3;have C:=y.c4;have D:=y.xv;have E:=y.xi;rw[<-t];clear y p t;have F:=jI q;have H:Hid (Lw P R R w w):=Lw.refl _ _ _;clear h D E q A B C;go_enter Tryz.func108,Tryz.ntmps108
 go_wp2_with(go_at_call 165;fail)
 clear z;refine F.mono ?_;rintro e w1 ⟨rfl,I,J,K⟩;have L:Hid (G (jR (.tuple #[])) w1):=by show G _ _;rw[x.out];exact⟨rfl,I,J,H.trans K⟩
 clear J K;go_wp2;go_end0;exact L
theorem SC{c:Int}{b:ByteArray}{e:Tr}{f i:jO}{l:Nat}(h:fC R w P a s)(q:∀W,Below (P-1) w W->DO P W g o c b d v e el f i j nt l m n p)(hc:∀k,1<=k->k<=8->c≠k)(r:s'=s):
  aA 108 #[ptr P,jQ (some (jB g o))] w (kR P R a w s'):=by
 have t:=jI q;obtain⟨G,u⟩:=aB (kR P R a w s');have x:=jI u;have y:=q w (aJ _ _);have z:=y.c0;have A:=y.c2;have B:=y.c3;have C:=y.c4;have D:=y.xv;have E:=y.xi;rw[<-u];clear y q u;have F:Hid (G (jR (.tuple #[])) w):=by show G _ _;rw[x.out,r];exact⟨rfl,R,h,Lw.refl _ _ _⟩
 have H:((c:Int)==1)=false:=by simpa using hc 1 (by omega) (by omega)
 have I:((c:Int)==2)=false:=by simpa using hc 2 (by omega) (by omega)
 have J:((c:Int)==3)=false:=by simpa using hc 3 (by omega) (by omega)
 have K:((c:Int)==4)=false:=by simpa using hc 4 (by omega) (by omega)
 have L:((c:Int)==5)=false:=by simpa using hc 5 (by omega) (by omega)
 have M:((c:Int)==6)=false:=by simpa using hc 6 (by omega) (by omega)
 have N:((c:Int)==7)=false:=by simpa using hc 7 (by omega) (by omega)
 have O:((c:Int)==8)=false:=by simpa using hc 8 (by omega) (by omega)
 clear h D E hc r A B C;go_enter Tryz.func108,Tryz.ntmps108;go_wp2;go_end0;exact F
theorem Lz(h:KE F)(p:Nat)(t:Tr):Kn (lL F p t):=fO (h.L _) λ_=>Gy _ _
theorem UE(a:PE 212 F.L){c:ByteArray}{r:jO}{t:Nat}(h:fC R w P b s)(y:∀W,Below (P-1) w W->DO P W g o 1 c d v f el j l m nt n r t x)(z:c=⟨nm.toArray⟩){k:Int}{A s2:Wr}(B:pW v s=some (k,s))(C:h9 k s=some (p,A))(D:lL F p v A=some (q,s2))(E:lJ nm p s2=some (u,s')):
  aA 108 #[ptr P,jQ (some (jB g o))] w (kR P R b w s'):=by
 have H:=jI y;obtain⟨G,I⟩:=aB (kR P R b w s');have J:=jI I;have K:=y w (aJ _ _);have M:=K.c0;have N:=K.c2;have O:=K.c3;have Q:=K.c4;have S:=K.xv;have T:=K.xi;rw[<-I];clear K y I;have U:=jI ((uP h S B).1);clear h S T B O;go_enter Tryz.func108,Tryz.ntmps108
 go_wp2_with(go_at_call 161;fail)
 clear M Q N;refine U.mono ?_;rintro e w1 ⟨rfl,V,Y,Z⟩;have d:=jI Z;have f:=jI (ri Y C);clear Y Z U
 go_wp2_with(go_at_call 68;fail)
 refine f.mono ?_;rintro e j ⟨rfl,l,m,n⟩;have r:=jI (d.trans n);have K:=H j r.bel;have Q:=K.c4;have t:=jI (Bq a m K.xv D);clear m n f K
 go_wp2_with(go_at_call 162;fail)
 clear Q;refine t.mono ?_;rintro e x ⟨rfl,c,A,y⟩;have I:=jI (r.trans y);have N:=(H x I.bel).c2;obtain⟨B,M,O,rfl⟩:=tJ E;obtain⟨S,T,V,C,A⟩:=A;have U:x.cell? (jB P 2)=some (.map (some b)):=jc 2 A.blk;have Y:Wc c x.drew P b S T V C s2:=A.on (λ_ _=>rfl) (eH _ _);obtain⟨Z,l,d,j⟩:=Y.bind nm p M B O;rw[<-z]at l;have a:Hid (G (jR (.tuple #[])) Z):=by
  show G _ _;rw[J.out];exact⟨rfl,c,⟨_,_,_,_,d⟩,(I.trans ⟨eH _ _,λ_ _=>rfl,λ_ _ _=>rfl⟩).trans j⟩
 clear A y t Y d j z
 go_wp2_with fail
 go_region
 all_goals
  go_wp2;go_end0;exact a
theorem UF(a:PE 212 F.L)(b:KE F){d:ByteArray}{k:Tr}{n:jO}{t:jO}{y:Nat}{u:Unit}(h:fC R w P c s)(z:∀W,Below (P-1) w W->DO P W g o 2 d f v k el l m n nt r t x y)(A:d=⟨nm.toArray⟩)(B:iH nm s=some (p,s))(C:lL F p v s=some (q,s')):
  aA 108 #[ptr P,jQ (some (jB g o))] w (kR P R c w s'):=by
 have D:=jI z;obtain⟨G,E⟩:=aB (kR P R c w s');have H:=jI E;have I:=z w (aJ _ _);have J:=I.c0;have K:=I.c2;have M:=I.c3;have N:=I.c4;have O:=I.xv;have Q:=I.xi;rw[<-E];clear I z E;obtain⟨S,rfl,-⟩:=mQ B;have T:fC R w.drew P c s:=h.on (λ_ _=>rfl) (eH _ _);have U:=jI (Bq a T (oO O (eH _ _)) C);obtain⟨V,Y,Z,f,h⟩:=h;have k:w.cell? (jB P 2)=some (.map (some c)):=jc 2 h.blk;have l:=h.name nm (by omega) w.drew rfl;rw[<-A]at l;have n:=Lz b _ _ _ _ _ C;have r:Hid (∀t w1,fC t w1 P c s'->w1.cell? (jB P 2)=some (.map (some c))/\(Instr.lookup 92 (.map (some c)) (jT d) false).run Tryz.prog w1= .ok (jV (nG s.nm nm:Int)) w1):=λt w1 x=>by
  obtain⟨_,_,_,_,y⟩:=x;have:=y.name nm (by omega) w1 rfl;rw[n,<-A]at this;exact⟨jc 2 y.blk,this⟩
 have J:=K;have z:=N;have E:=k;generalize nG s.nm nm=j at*;clear h O Q B C M T A S n;go_enter Tryz.func108,Tryz.ntmps108
 go_wp2_with fail
 go_region_held3(λw'=>w'.cell? (jB P 2)=some (.map (some c))/\w'.cell? (jB g (o+2))=some (jT d)/\w'.cell? (jB g (o+4))=some (jQ m)/\(Instr.lookup 92 (.map (some c)) (jT d) false).run Tryz.prog w'= .ok (jV (j:Int)) w')
  (first|(go_keep;done)|((try dsimp only);refine⟨?_,?_,?_,?_⟩<;>first|assumption|(go_keep;done)|(go_simp;done)|(simp[*];done)))
  (first|(go_at_call 162;refine U.mono ?_;rintro e w1 ⟨rfl,t,I,a⟩;have V:w1.cell? (jB P 2)=some (.map (some c)):=r _ _ I|>.1;have Y:w1.cell? (jB g (o+2))=some (jT d):=(D w1 (dz (eH _ _) a.bel)).c2;have Z:w1.cell? (jB g (o+4))=some (jQ m):=(D w1 (dz (eH _ _) a.bel)).c4;have f:(Instr.lookup 92 (.map (some c)) (jT d) false).run Tryz.prog w1= .ok (jV (j:Int)) w1:=r _ _ I|>.2;have l:Hid (G (jR (.tuple #[])) w1):=(by show G _ _;rw[H.out];exact⟨rfl,t,I,Lw.trans ⟨eH _ _,λ_ _=>rfl,λ_ _ _=>rfl⟩ a⟩);clear I a))
 all_goals
  go_wp2;go_end0;exact l
theorem UG(hV:Ad F.V)(hK:KE F){w:World}{d:Nat}{m:ByteArray}{vi O:Option Addr}{qt:Option Addr}{qe:Option Addr}{ne A0:Nat}(h:fC R w P d s)(U:∀W,Below (P-1) w W->DO P W g o 3 m ix v th el vi O qt nt ct qe ne A0)(Q:m=⟨nm.toArray⟩){s1 k:Wr}(e1:F.V ix s=some (i,s1))(e2:F.V v s1=some (x,k))(e3:iH nm k=some (p,k))(T:gX {fd with code:=12,a:=(p:Int),b:=(i:Int),c:=(x:Int)} k=some (u,s')):
  aA 108 #[ptr P,.pointer (some ⟨g,o,none⟩)] w (kR P R d w s'):=by
 have C:=jI U;obtain⟨G,hG⟩:=aB (kR P R d w s');have HG:=jI hG;have f:=U w (aJ _ _);have c0:=f.c0;have c2:=f.c2;have c3:=f.c3;have c4:=f.c4;have A2:=f.xv;have D:=f.xi;rw[<-hG];clear f U hG;obtain⟨Y,rfl,-⟩:=mQ e3;have K:=hK.V _ _ _ _ e2;have I:=jI (hV R w P d s s1 ix _ i h D e1);clear h A2 D e1 c2 c4;go_enter Tryz.func108,Tryz.ntmps108
 go_wp2_with(go_at_call 163;fail)
 clear c0 c3;refine I.mono ?_;rintro e w1 ⟨rfl,R1,H,A⟩;have A3:=jI A;have f:=C.out w1 A3.bel;have c2:=f.c2;have c4:=f.c4;have L:fC R1 w1.drew P d s1:=H.on (λ_ _=>rfl) (eH _ _);have B:Hid (Lw P R R1 w w1.drew):=A.trans ⟨eH _ _,λ_ _=>rfl,λ_ _ _=>rfl⟩;have A1:=jI (hV R1 w1.drew P d s1 k v _ x L (oO f.xv (eH _ _)) e2);obtain⟨tv,sv,v1,v2,y⟩:=H;have d2:w1.cell? ⟨P,2,none⟩=some (.map (some d)):=jc 2 y.blk;have Z:=y.name nm (by omega) w1.drew rfl;rw[<-Q,<-K]at Z;have HQ:Hid (∀z w2,fC z w2 P d k->(Instr.lookup 92 (.map (some d)) (.string m) false).run Tryz.prog w2= .ok (.int .i64 (nG k.nm nm:Int)) w2/\w2.cell? ⟨P,2,none⟩=some (.map (some d))/\aA 70 #[ptr P,.agg #[.int .i64 12,.int .i64 0,.int .i64 (nG k.nm nm:Int),.int .i64 (i:Int),.int .i64 (x:Int),.int .i64 0,.string ⟨#[]⟩,.int .i64 0,.string ⟨#[]⟩,.slice none 0 0]] w2 (kR P z d w2 s')):=λz w2 S=>by
  have hA:=ny 12 0 (nG k.nm nm:Int) (i:Int) (x:Int) 0 ⟨#[]⟩ 0 ⟨#[]⟩ [] none 0 0 S (gG.none _ _) T;obtain⟨_,_,_,_,J⟩:=S;rw[Q];exact⟨J.name nm (by omega) w2 rfl,jc 2 J.blk,hA⟩
 have q:Hid (∀N w3 s9,s9.nm=k.nm->fC N w3 P d s9->w3.cell? ⟨P,2,none⟩=some (.map (some d))/\(Instr.lookup 92 (.map (some d)) (.string m) false).run Tryz.prog w3= .ok (.int .i64 (nG k.nm nm:Int)) w3):=λN w3 s9 e9 S=>by
  obtain⟨_,_,_,_,J⟩:=S;have:=J.name nm (by omega) w3 rfl;rw[e9,<-Q]at this;exact⟨jc 2 J.blk,this⟩
 have E:=jI (lZ _ _ _ _ T);have b2:=c2;have b4:=c4;have bd:=d2;generalize nG k.nm nm=j at*;clear A I f L y Q Y K e2 e3 T
 go_wp2_with fail
 go_region_held3(λw'=>w'.cell? ⟨P,2,none⟩=some (.map (some d))/\w'.cell? ⟨g,o+2,none⟩=some (.string m)/\w'.cell? ⟨g,o+4,none⟩=some (.pointer O)/\(Instr.lookup 92 (.map (some d)) (.string m) false).run Tryz.prog w'= .ok (.int .i64 (j:Int)) w')
  (first|(go_keep;done)|((try dsimp only);refine⟨?_,?_,?_,?_⟩<;>first|assumption|(go_keep;done)|(go_simp;done)|(simp[*];done)))
  (first
  |(go_at_call 163;refine A1.mono ?_;rintro e w2 ⟨rfl,z,r,M⟩;have l:Hid (Lw P R z w w2):=B.trans M;have HA:Hid (aA 70 #[ptr P,.agg #[.int .i64 12,.int .i64 0,.int .i64 (j:Int),.int .i64 (i:Int),.int .i64 (x:Int),.int .i64 0,.string ⟨#[]⟩,.int .i64 0,.string ⟨#[]⟩,.slice none 0 0]] w2 (kR P z d w2 s')):=(HQ.out z w2 r).2.2;have k1:w2.cell? ⟨P,2,none⟩=some (.map (some d)):=(q.out _ _ _ rfl r).1;have k2:w2.cell? ⟨g,o+2,none⟩=some (.string m):=(C.out w2 l.bel).c2;have k4:w2.cell? ⟨g,o+4,none⟩=some (.pointer O):=(C.out w2 l.bel).c4;have kl:(Instr.lookup 92 (.map (some d)) (.string m) false).run Tryz.prog w2= .ok (.int .i64 (j:Int)) w2:=(q.out _ _ _ rfl r).2;clear r M)
  |(go_at_call 70;refine HA.mono ?_;rintro e w3 ⟨rfl,N,t,n⟩;have m1:w3.cell? ⟨P,2,none⟩=some (.map (some d)):=(q.out _ _ _ E.out t).1;have m2:w3.cell? ⟨g,o+2,none⟩=some (.string m):=(C.out w3 (l.trans n).bel).c2;have m4:w3.cell? ⟨g,o+4,none⟩=some (.pointer O):=(C.out w3 (l.trans n).bel).c4;have ml:(Instr.lookup 92 (.map (some d)) (.string m) false).run Tryz.prog w3= .ok (.int .i64 (j:Int)) w3:=(q.out _ _ _ E.out t).2;have HE:Hid (G (.returned (.tuple #[])) w3):=(by show G _ _;rw[HG.out];exact⟨rfl,N,t,l.trans n⟩);clear t n))
 all_goals
  go_wp2;go_end0;exact HE.out
theorem LA{S:Tr->Lm Unit}(n:Ad F.V)(B:PE 212 F.L)(A:Ce 215 F.U)(y:KE F)(z:Ri S):TP (pg F S):=by
 intro R w P mb s s' t g o u h J b;obtain⟨k1,W,c,a,nm,ix,v,th,el,Z,vv,Y,nt,ct,qe,ne,O,rfl,j⟩:=J.opn;unfold pg at b;simp only at b;split at b
 ·rename_i hc;subst hc;obtain⟨k,I,f,b⟩:=d_ b;obtain⟨p,m,d,b⟩:=d_ b;obtain⟨q,N,l,r⟩:=d_ b;obtain⟨-,rfl⟩:=uP h (j w (aJ _ _)).xv f;exact UE B h j rfl f d l r
 split at b
 ·rename_i hc;subst hc;obtain⟨p,I,f,b⟩:=d_ b;obtain⟨q,m,d,l⟩:=d_ b;injection l with l;injection l with _ l;subst l;obtain⟨-,-,rfl⟩:=mQ f;exact UF (u:=u) B y h j rfl f d
 split at b
 ·rename_i hc;subst hc;obtain⟨i,m,f,b⟩:=d_ b;obtain⟨x,N,d,b⟩:=d_ b;obtain⟨p,T,l,r⟩:=d_ b;obtain⟨-,-,rfl⟩:=mQ l;exact UG n y h j rfl f d l r
 split at b
 ·rename_i hc;subst hc;exact Lx (u:=u) h j (Df A z h j b)
 split at b
 ·rename_i hc;subst hc;exact Lv (u:=u) h j (Ko A z h j b)
 split at b
 ·rename_i hc;subst hc;obtain⟨p,m,f,d⟩:=d_ b;exact UB n h j f d
 split at b
 ·rename_i hc;subst hc;obtain⟨p,m,f,d⟩:=d_ b;exact UC n h j f d
 split at b
 ·rename_i hc;subst hc;obtain⟨p,m,f,d⟩:=d_ b;injection d with d;injection d with _ d;subst d;exact UD (u:=u) n h j f
 ·rename_i E C G M Q D K H;injection b with b;injection b with _ b;refine SC h j (λk h1 h2 e=>?_) b.symm;have:c=1\/c=2\/c=3\/c=4\/c=5\/c=6\/c=7\/c=8:=by omega
  rcases this with e|e|e|e|e|e|e|e
  ·exact E e
  ·exact C e
  ·exact G e
  ·exact M e
  ·exact Q e
  ·exact D e
  ·exact K e
  ·exact H e
theorem Cp(G:Nat):∀g,TP (DR (mm G) g)
 |0=>λR w P a s s' t g o u h b c=>(by cases c)
 |g+1=>LA (vo G).1 (vo G).2.1 (vo G).2.2.1 (tI G) (uH (Cp G g))
theorem pG(G g:Nat):Ri (DR (mm G) g):=uH (Cp G g)
end Go.Proofs.YtnfhpdbbfejioaaGreatDoor.Mid
namespace Go.Proofs.YtnfhpdbbfejioaaGreatDoor
open Go Go.RowKit
abbrev iQ(L:List eR):By->Option eR:=λnm=>L.find? (λF=>F.nm==nm)
theorem Bu(fs:By->Option eR):lC fs .nil:=by unfold lC;trivial
theorem Fs(fs:By->Option eR):lC fs ce:=by unfold lC;trivial
theorem vN(fs:By->Option eR):oK fs ce:=by unfold oK;trivial
theorem uI{fs:By->Option eR}:∀(xs:List Tr),(∀x∈xs,lC fs x)->lC fs (chain xs)
 |[],_=>Fs fs
 |x::xs,h=>by
  unfold chain;rw[lC];exact⟨h x (by simp),uI xs λy a=>h y (by simp[a])⟩
theorem Bv{lk:By->Option Nm}{ns:Nm}:∀(xs:List Tr)(a:Nm)(r:Int),xs.length=a.length->ck lk ns (chain xs) a= .ok r->∀x∈xs,∃k,ck lk ns x []= .ok k
 |[],_,_,_,_,x,b=>by simp at b
 |y::xs,[],_,c,_,x,b=>by simp at c
 |y::xs,p::a,r,c,h,x,b=>by
  unfold chain at h;rw[ck]at h;obtain⟨t,h1,h⟩:=eE h;obtain⟨_,_,h⟩:=eE h;rcases aY.1 b with rfl|b
  ·exact⟨t,h1⟩
  ·exact Bv xs a r (by simpa using c) h x b
theorem ou{nm:By}(h:zf nm):nm.length<=1000000:=by
 have:=h.2.2.2.2;omega
theorem lV{L:List eR}:∀(f d:Nat)(t:Tr),RE f d t->∀(ns:Nm)(k:Int),ck (eU L) ns t []= .ok k->lC (iQ L) t
 |0,_,_,h,_,_,_=>by rw[RE]at h;exact h.elim
 |f+1,d,t,h,ns,k,hk=>by
  rw[RE]at h;obtain⟨_,h⟩:=h;have b:=Bu (iQ L);have c:=Fs (iQ L);rcases h with⟨a,n,_,_,rfl⟩|⟨a,nm,g,rfl⟩|⟨a,i,l,r,_,j,m,rfl⟩|⟨a,i,l,_,j,rfl⟩|⟨a,nm,xs,g,o,rfl⟩|⟨a,l,j,rfl⟩|⟨a,l,j,rfl⟩|⟨a,l,r,j,m,rfl⟩|⟨a,rfl⟩
  all_goals rw[lC]
  all_goals rw[ck]at hk
  ·exact⟨by simp,b,b,c,λe=>absurd e (by decide)⟩
  ·exact⟨ou g,b,b,c,λe=>absurd e (by decide)⟩
  ·rw[if_neg (by decide),if_pos rfl]at hk;obtain⟨_,h1,hk⟩:=eE hk;obtain⟨_,_,hk⟩:=eE hk;obtain⟨_,h2,hk⟩:=eE hk;exact⟨by simp,lV f _ l j ns _ h1,lV f _ r m ns _ h2,c,λe=>absurd e (by decide)⟩
  ·rw[if_neg (by decide),if_neg (by decide),if_pos rfl]at hk;obtain⟨_,h1,hk⟩:=eE hk;exact⟨by simp,lV f _ l j ns _ h1,b,c,λe=>absurd e (by decide)⟩
  ·rw[if_neg (by decide),if_neg (by decide),if_neg (by decide),if_pos rfl]at hk;unfold eU at hk;cases p:L.find? (λF=>F.nm==nm) with
   |none=>rw[p]at hk;cases hk
   |some F=>
    rw[p]at hk;simp only[cO]at hk;by_cases hc:qw (chain xs)=F.ps.length
    ·rw[if_neg (by simp[hc])]at hk;obtain⟨_,h1,hk⟩:=eE hk;have j:xs.length=F.ps.length:=by rw[<-hc,ig]
     refine⟨ou g,b,b,uI xs λx q=>?_,λ_=>⟨F,p,hc.symm⟩⟩;obtain⟨s,u⟩:=Bv xs F.ps _ j h1 x q;exact lV f _ x (o x q) ns s u
    ·rw[if_pos hc]at hk;cases hk
  ·rw[if_neg (by decide),if_neg (by decide),if_neg (by decide),if_neg (by decide),if_pos rfl]at hk;obtain⟨_,h1,hk⟩:=eE hk;exact⟨by simp,lV f _ l j ns _ h1,b,c,λe=>absurd e (by decide)⟩
  ·rw[if_neg (by decide),if_neg (by decide),if_neg (by decide),if_neg (by decide),if_neg (by decide),if_pos rfl]at hk;obtain⟨_,h1,hk⟩:=eE hk;exact⟨by simp,lV f _ l j ns _ h1,b,c,λe=>absurd e (by decide)⟩
  ·rw[if_neg (by decide),if_neg (by decide),if_neg (by decide),if_neg (by decide),if_neg (by decide),if_neg (by decide),if_pos rfl]at hk;obtain⟨_,h1,hk⟩:=eE hk;obtain⟨_,_,hk⟩:=eE hk;obtain⟨_,h2,hk⟩:=eE hk;exact⟨by simp,lV f _ l j ns _ h1,lV f _ r m ns _ h2,c,λe=>absurd e (by decide)⟩
  ·exact⟨by simp,b,b,c,λe=>absurd e (by decide)⟩
theorem nV{L:List eR}{d:Nat}{t:Tr}(h:yw d t){ns:Nm}{k:Int}(hk:mu (eU L) ns t k= .ok ()):lC (iQ L) t:=by
 obtain⟨e,h⟩:=h;unfold mu at hk;obtain⟨a,h1,_⟩:=eE hk;exact lV e d t h ns a h1
def Rk(lk:By->Option Nm)(s:Nm×Nat)(c a:Int)(nm:By)(b v d el:Tr):X (Nm×Nat):=
 if c=1 then bx (ck lk s.1 v []) λt=>kW s (nm,t) a
 else if c=2 then(match gP s.1 nm with|none=> .error (7,a)|some k=>bx (mu lk s.1 v k) λ_=> .ok s)
 else if c=3 then(match gP s.1 nm with|none=> .error (7,a)|some k=>if k≠2 then .error (1,a) else bx (mu lk s.1 b 1) λ_=>bx (mu lk s.1 v 1) λ_=> .ok s)
 else bx (mu lk s.1 v 1) λ_=>bx (gw lk d s) λe=>bx (gw lk el (s.1,e.2)) λf=> .ok (s.1,f.2)
theorem Fv(lk:By->Option Nm)(c a:Int)(nm:By)(b v d el g:Tr)(s:Nm×Nat):gw lk (cc (st c a nm b v d el) g) s=bx (Rk lk s c a nm b v d el) λs'=>gw lk g s':=by rw[gw];rfl
theorem vO{L:List eR}:∀(f d:Nat)(xs:List Tr),(∀x∈xs,RS f d x)->∀(s s':Nm×Nat),gw (eU L) (chain xs) s= .ok s'->oK (iQ L) (chain xs)
 |0,d,xs,h,s,s',hk=>by
  cases xs with
  |nil=>exact vN _
  |cons x xs=>exact(h x (by simp)).elim
 |f+1,d,[],h,s,s',hk=>vN _
 |f+1,d,x::xs,h,s,s',hk=>by
  have a:=h x (by simp);have c:=λ(d:Nat) (xs:List Tr) (h:∀x∈xs,RS f d x) (s s':Nm×Nat) (hk:gw (eU L) (chain xs) s= .ok s')=>vO (L:=L) f d xs h s s' hk;have g:=Bu (iQ L);have j:=vN (iQ L);unfold chain at hk⊢;rw[RS]at a;rcases a with⟨l,m,n,o,p,rfl⟩|⟨l,m,n,o,p,rfl⟩|⟨l,m,i,n,o,q,p,rfl⟩|⟨l,n,r,zs,hd,p,u,v,rfl⟩|⟨l,n,r,hd,p,u,rfl⟩|⟨l,n,p,rfl⟩|⟨l,n,p,rfl⟩|⟨l,b,m,r,o,⟨w,u⟩,rfl⟩
  all_goals rw[Fv]at hk
  all_goals obtain⟨z,h1,hk⟩:=eE hk
  all_goals have A:=vO (f+1) d xs (λy u=>h y (by simp[u])) z s' hk
  all_goals rw[oK]
  all_goals unfold Rk at h1
  ·rw[if_pos rfl]at h1;obtain⟨t,h2,_⟩:=eE h1;obtain⟨e,p⟩:=p;exact⟨ou o,g,lV e _ n p _ _ h2,j,j,A⟩
  ·rw[if_neg (by decide),if_pos rfl]at h1;cases B:gP s.1 m with
   |none=>rw[B]at h1;cases h1
   |some k=>
    rw[B]at h1;obtain⟨_,h2,_⟩:=eE h1;exact⟨ou o,g,nV p h2,j,j,A⟩
  ·rw[if_neg (by decide),if_neg (by decide),if_pos rfl]at h1;cases B:gP s.1 m with
   |none=>rw[B]at h1;cases h1
   |some k=>
    rw[B]at h1;simp only at h1;by_cases C:k=2
    ·rw[if_neg (by simp[C])]at h1;obtain⟨_,h2,h1⟩:=eE h1;obtain⟨_,D,h1⟩:=eE h1;exact⟨ou o,nV q h2,nV p D,j,j,A⟩
    ·rw[if_pos C]at h1;cases h1
  ·rw[if_neg (by decide),if_neg (by decide),if_neg (by decide)]at h1;obtain⟨_,h2,h1⟩:=eE h1;obtain⟨E,D,h1⟩:=eE h1;obtain⟨F,G,h1⟩:=eE h1;exact⟨by simp,g,nV p h2,c _ r u _ _ D,c _ zs v _ _ G,A⟩
  ·rw[if_neg (by decide),if_neg (by decide),if_neg (by decide)]at h1;obtain⟨_,h2,h1⟩:=eE h1;obtain⟨E,D,h1⟩:=eE h1;exact⟨by simp,g,nV p h2,c _ r u _ _ D,j,A⟩
  ·rw[if_neg (by decide),if_neg (by decide),if_neg (by decide)]at h1;obtain⟨_,h2,h1⟩:=eE h1;exact⟨by simp,g,nV p h2,j,j,A⟩
  ·rw[if_neg (by decide),if_neg (by decide),if_neg (by decide)]at h1;obtain⟨_,h2,h1⟩:=eE h1;exact⟨by simp,g,nV p h2,j,j,A⟩
  ·rw[if_neg (by decide),if_neg (by decide),if_neg (by decide)]at h1;obtain⟨_,h2,h1⟩:=eE h1;have p:yw 0 (nd 5 b 0 m [] .nil .nil (chain r)):=⟨w+1,by
    rw[RE];exact⟨by omega,.inr (.inr (.inr (.inr (.inl ⟨_,_,_,o,u,rfl⟩))))⟩⟩
   exact⟨by simp,g,nV p h2,j,j,A⟩
theorem Kg{L:List eR}(a:∀F∈L,RF F)(hc:chk L= .ok true):(L.map (·.nm)).Nodup/\(∀F∈L,oK (iQ L) F.body)/\∃F,iQ L iC=some F/\F.ps=[]:=by
 unfold chk at hc;obtain⟨_,h1,hc⟩:=eE hc;obtain⟨_,h2,hc⟩:=eE hc;refine⟨((tB L []).1 h1).1,λF b=>?_,?_⟩
 ·have c:=(Gg (eU L) L).1 h2 F b;unfold uM at c;obtain⟨s,_,c⟩:=eE c;obtain⟨s',d,_⟩:=eE c;obtain⟨_,_,_,xs,e,f,g⟩:=a F b;rw[f]at d⊢;exact vO e 1 xs g _ _ d
 ·unfold eU at hc;cases h:L.find? (λF=>F.nm==iC) with
  |none=>rw[h]at hc;cases hc
  |some F=>
   rw[h]at hc;refine⟨F,h,?_⟩;cases i:F.ps with
   |nil=>rfl
   |cons p j=>
    simp only[cO,i]at hc;cases hc
end Go.Proofs.YtnfhpdbbfejioaaGreatDoor
