/- HH HK HL HM -/
import Derived.Test.YtnfhpdbbfejioaaGreatDoorJ18
import Derived.Test.YtnfhpdbbfejioaaGreatDoorJ15
import Derived.Test.YtnfhpdbbfejioaaGreatDoorJ09
import Derived.Test.YtnfhpdbbfejioaaGreatDoorJ11
set_option linter.unusedVariables false
set_option linter.unusedSimpArgs false
set_option maxRecDepth 100000
set_option maxHeartbeats 16000000
namespace Go.Proofs.YtnfhpdbbfejioaaGreatDoor
open Go Go.RowKit
variable {w w' c d:jW}{a i:Nat}{cs:jE}{F:eR}{f b:jU}
structure NT (w:jW) (P:Nat) (L:List eR) (cs:jE) (wr:jW) (i:Nat):Prop where
 at':∃f,az w wr/\w.heap.size<wr.heap.size/\kB wr w.heap.size i f/\∀(j:Nat)(F:eR),j<i->L[j]?=some F->∃vp cb,cs[j*4+2]?=some vp/\f F.nm=some (.agg #[vp,.func (.func 87) #[] cb])/\pK wr P F.body (.func (.func 87) #[] cb)
theorem Ew{M:Nat}{a:Array MapEntry}{ck:Nat}(c:w.heap[M]?=some (.map a ck))(d:w.grownBy w' (some M)):Ks w w':=λb cs t _ _ f=>by
 have g:b≠M:=λe=>by subst e;rw[c]at f;cases f
 rw[d.block b (aC.1 f).1 (λe=>g (by injection e))];exact f
theorem Jy{P:Nat}{L:List eR}{wr w1 a:jW}{f:By->Option jU}{cb:Array Value}(c:(L.map (·.nm)).Nodup)(d:L[i]?=some F)(g:cs[i*4+2]?=some b)
  (h1:az w wr) (h:w.heap.size<wr.heap.size) (l:kB wr w.heap.size i f) (m:∀(j:Nat)(F:eR),j<i->L[j]?=some F->∃b cb,cs[j*4+2]?=some b/\f F.nm=some (.agg #[b,.func (.func 87) #[] cb])/\pK wr P F.body (.func (.func 87) #[] cb))
  (n:az wr w1) (o:pK w1 P F.body (.func (.func 87) #[] cb)) (p:kB a w.heap.size (i+1) (λy=>if y=F.nm then some (.agg #[b,.func (.func 87) #[] cb]) else f y)) (q:w1.grownBy a (some w.heap.size)):NT w P L cs a (i+1):=by
 obtain⟨r,ck,s⟩:=(l.kept (n.block _ h)).obj;have t:=Ew s q;refine⟨⟨_,?_,aO h (aP n.size q.size),p,λj G u v=>?_⟩⟩
 ·exact(h1.trans (n.mono (by omega))).grown q (by have:=n.size;omega) (λk e=>by injection e with e;omega)
 ·by_cases x:j=i
  ·subst x;rw[d]at v;injection v with v;subst v;exact⟨b,cb,g,by simp,o.kept t⟩
  ·obtain⟨z,A,B,C,D⟩:=m j G (by omega) v;refine⟨z,A,B,?_,(D.below n).kept t⟩;have E:G.nm≠F.nm:=λe=>by
    obtain⟨H,rfl⟩:=aK.1 v;obtain⟨I,rfl⟩:=aK.1 d;have:=List.pairwise_iff_getElem.1 c j i (by simpa using H) (by simpa using I) (by omega);simp at this;exact this e
   rw[if_neg E];exact C
def NU(P:Nat)(L:List eR)(cs:jE)(w:jW)(e:Ending)(w':jW):Prop:=e=jR (.map (some w.heap.size))/\NT w P L cs w' L.length
theorem uk(w:jW)(v:jU)(P:Nat)(L:List eR)(cs:jE)(a:fy (Lo w.heap.size) w 86 4 v L.length cs)(c:∀(i:Nat)(f:eR),L[i]?=some f->∃(d k:jU)(l:Nat)(m:jE),fy (Lo w.heap.size) w 144 2 d f.ps.length (lA f.ps)/\fy (Lo w.heap.size) w 147 7 k l m/\ey (Lo w.heap.size) w f.body m/\cs[i*4]?=some (str f.nm)/\cs[i*4+1]?=some (jV f.at')/\cs[i*4+2]?=some d/\cs[i*4+3]?=some k)
  (q:L.length<=12) (r:∀F∈L,qF F/\RF F) (s:(L.map (·.nm)).Nodup):aA 29 #[ptr P,v] w (NU P L cs w):=by
 obtain⟨t,cv,u,x⟩:∃t cv,v=jL t L.length cv/\∀i,i<L.length->∃g y,t=some (jA g)/\w.heap[g]?=some (.cells y 86)/\∀j,j<4->y[i*4+j]?=cs[i*4+j]?:=by
  obtain⟨⟨z,A⟩,-⟩:=a;rcases A with⟨rfl,B⟩|⟨g,C,y,rfl,_,r,hc,_,_,D⟩
  ·rw[B];exact⟨none,0,rfl,λi E=>by omega⟩
  ·refine⟨_,C,rfl,λi E=>⟨g,y,rfl,r,λj H=>?_⟩⟩;rw[<-D,bZ,if_pos (by omega)];simp
 subst u;obtain⟨n,I⟩:=aB L.length;have J:=jI I;have K:n<=12:=by rw[I];exact q
 rw[<-I]at x⊢;have M:∀W:jW,(Instr.makeMap 58 (some (jV (n:Int)))).run Tryz.prog W= .ok (.map (some W.heap.size)) (W.alloc (.map #[] 0)):=λW=>by simp[Instr.makeMap,go_sem]
 obtain⟨N,O,Q,S⟩:=j4 x c r s;clear a c x r s q I;generalize T:NU P L cs w=G;have U:=jI T;clear T;go_enter Tryz.func29,Tryz.ntmps29
 go_upto_region 2 with fail
 have V:Hid (NT w P L cs (w.alloc (.map #[] 0)) 0):=⟨⟨_,ik _ _,by simp,kB.made w,λj F H=>by omega⟩⟩;obtain⟨Y,Z⟩:=aB (w.alloc (.map #[] 0));rw[<-Z]at V⊢;clear Z
 go_wp2_with fail
 go_loopw [13] (λv wr=>∃i:Nat,i<=n/\v=jV i/\Hid (NT w P L cs wr i)) (λv _=>n-(intOf v).toNat)
 case atStart=>exact⟨0,aQ _,rfl,V⟩
 case round=>
  obtain⟨i,t,rfl,z⟩:=hrel;by_cases A:i<n
  ·obtain⟨F,B⟩:∃F,L[i]?=some F:=⟨L[i]'(by rw[<-J.out];exact A),aI _⟩;obtain⟨g,y,rfl,r,C⟩:=N i A;obtain⟨d,k,l,m,E,u,D,K,M,a,c⟩:=O i F B;obtain⟨q,cp,rfl⟩:=mY E;obtain⟨s,cb,rfl⟩:=mY u;obtain⟨⟨x,I,_⟩,⟨_,T,_,xs,H,V,Y⟩⟩:=Q F (aM B);have Z:IQ F.body:=by rw[V]at x I⊢;exact KB Y x I
   obtain⟨f,h1,t,y,d⟩:=z.at';obtain⟨k,N⟩:∃k:ByteArray,k=⟨F.nm.toArray⟩:=⟨_,rfl⟩;have A:=fR h1 r;have O:wr.cell? (jB g (i*4))=some (jT k):=by rw[N];exact eo A ((C 0 (by omega)).trans K)
   have H:=eo A ((C 1 (by omega)).trans M);have Q:=eo A ((C 2 (by omega)).trans a);have A0:=eo A ((C 3 (by omega)).trans c);have A1:k.size<=1000000:=by
    have:=T.2.2.2.2;rw[N];simp only[ByteArray.size,List.size_toArray];omega
   have A2:=jI (λW (A3:az w W)=>Z (Lo w.heap.size) W P _ l m (u.kept (gc A3) (by decide)) (ey.kept (gc A3) _ _ D));have m:=jI (jN B (jN a (jN h1 (jN t (jN y d)))));have A4:Hid (k.data.toList=F.nm):=by rw[N];show _=_;simp
   obtain⟨A5,A6⟩:=aB F.ps.length;obtain⟨A7,A8⟩:=aB F.at';rw[<-A6]at Q m;rw[<-A8]at H;have A9:(i:Int)<(n:Int):=by omega
   have B0:w.heap.size≠wr.heap.size:=by omega
   clear B r C E u D K M a c x I T V Y Z h1 t y d N A A6 A8
   go_wp2_with fail
   obtain⟨W7,r⟩:=aB (wr.alloc (jC #[jT k,jV A7,jL q A5 cp,jL s l cb] 86));have B:az wr W7:=by rw[r];exact ik _ _
   have C:W7.heap[wr.heap.size]?=some (jC #[jT k,jV A7,jL q A5 cp,jL s l cb] 86):=by rw[r];exact heap_alloc_last _ _
   have E:W7.cell? (jA wr.heap.size)=some (jT k):=jc 0 C;have u:W7.cell? (jB wr.heap.size 2)=some (jL q A5 cp):=jc 2 C;have D:W7.cell? (jB wr.heap.size 3)=some (jL s l cb):=jc 3 C;have K:wr.heap.size<W7.heap.size:=(aC.1 C).1;have M:=jI B;rw[<-r];clear r C B O H Q A0
   go_region_held3(λw'=>w'.cell? (jA wr.heap.size)=some (jT k)/\w'.cell? (jB wr.heap.size 2)=some (jL q A5 cp)/\w'.cell? (jB wr.heap.size 3)=some (jL s l cb))
    (first|(go_keep;done)|((try dsimp only);refine⟨?_,?_,?_⟩<;>first|(go_keep;done)|(go_simp;done)|(simp[*];done)|assumption))
    (first|(go_at_call 53;refine(A2 _ ((m.out.2.2.1.trans (M.mono (aL m.out.2.2.2.1))).drew)).mono ?_;rintro e w1 ⟨a,rfl,c,x⟩;have I:az wr w1:=M.trans ((ke x).mono (aL K));have T:=λb o h=>x.cell (p:=(jB b o)) h;have V:w1.cell? (jA wr.heap.size)=some (jT k):=(T _ _ (by simp;omega)).trans (by go_simp);have Y:w1.cell? (jB wr.heap.size 2)=some (jL q A5 cp):=(T _ _ (by simp;omega)).trans (by go_simp);have Z:w1.cell? (jB wr.heap.size 3)=some (jL s l cb):=(T _ _ (by simp;omega)).trans (by go_simp);have t:=(m.out.2.2.2.2.1.kept (I.block _ m.out.2.2.2.1)).put H_ (by omega) k A1 (.agg #[jL q A5 cp,.func (.func 87) #[] a]);obtain⟨y,d,N,A⟩:=t;have E:y.cell? (jA wr.heap.size)=some (jT k):=(bB (A.block _ (aV w1 _ V) (λe=>B0 (aS e).symm))).trans V;have u:y.cell? (jB wr.heap.size 2)=some (jL q A5 cp):=(bB (A.block _ (aV w1 _ Y) (λe=>B0 (aS e).symm))).trans Y;have D:y.cell? (jB wr.heap.size 3)=some (jL s l cb):=(bB (A.block _ (aV w1 _ Z) (λe=>B0 (aS e).symm))).trans Z;rw[A4.out]at N;have O:Hid (NT w P L cs y (i+1)):=Jy S m.out.1 m.out.2.1 m.out.2.2.1 m.out.2.2.2.1 m.out.2.2.2.2.1 m.out.2.2.2.2.2 I c N A;clear T c x I N A))
   go_wp2;exact⟨⟨i+1,by omega,by go_num,O⟩,by simp[intOf];omega⟩
  ·have H:i=n:=by omega
   subst H;have Q:Hid (G (jR (.map (some w.heap.size))) wr):=by
    show G _ _;rw[<-U.out];exact⟨rfl,by rw[<-J.out];exact z⟩
   go_wp2;exact Q
theorem Jf{L:List eR}(b:iQ L iC=some F)(c:F.ps=[])(g:Nat)(inp:List Int)(a:Nat):Aq (g+2) L inp a=(match fK (iQ L) (g+1) 0 [] F.body ⟨a,inp,[],[]⟩ with| .error (w,out)=>(w,0,out)| .ok (z,s)=>(1,z,s.out)):=by
 unfold Aq;have e:=Eh (iQ L) (g+1) 0 [] 0 0 iC [] .nil .nil ce b;have d:eM (λnm=>L.find? (λF=>F.nm==nm)) (g+2) 0 [] (nd 5 0 0 [109,97,105,110] [] .nil .nil ce)=au (nA (iQ L) (g+1) 0 [] ce) λf=>au (fK (iQ L) (g+1) 0 ((F.ps.map (·.1)).zip f).reverse F.body) λz=>ar (z,none):=e;rw[d,SA,c];show(match au (fK (iQ L) (g+1) 0 [] F.body) (λz=>ar ((z,none):Vl)) ⟨a,inp,[],[]⟩ with| .error (w,out)=>(w,0,out)| .ok (v,s)=>(1,v.1,s.out))=_;cases hc:fK (iQ L) (g+1) 0 [] F.body ⟨a,inp,[],[]⟩ with
 |error e=>rw[gS hc]
 |ok q=>
  obtain⟨z,s⟩:=q;rw[ft hc];rfl
theorem uw(d:Array Value)(w:jW)(g:Nat)(a b c:jU)(e:d.getD 6 undef=jP g)(f:w.heap[g]?=some (jC #[a,b,c] 29)):
  (results Tryz.f12 d).run Tryz.prog w= .ok (.agg #[a,b,c]) w:=
 results_cell_row (p:=6) (ty:=29) Tryz.results12 _ _ g 29 _ (0,0) _ e f Tryz.underlying29 rfl (by kernel_rfl)
theorem Ei{b:Nat}{ds:Array Value}{v:jU}(h:w.heap[b]?=some (.cells ds 60)):Ks w (w.setCell (jB b i) v):=λa cs t c _ hk=>by
 rw[aG _ _ _ _ (λe=>by
  have d:=e;subst d;rw[h]at hk;injection hk with hk;injection hk with _ h2;exact c h2.symm)]
 exact hk
structure R5 (w:jW) (iv:jU) (a:Nat) (L:List eR) (cs:jE) (M:Nat) (wx:jW):Prop where
 bel:az w wx
 z:w.heap.size+3<=wx.heap.size
 k0:wx.heap[w.heap.size]?=some (jC #[jV 0,jV 0,jS] 29)
 k1:wx.heap[w.heap.size+1]?=some (jC #[.map (some M),iv,jS,jV (a:Int),jV 0] 60)
 k2:wx.heap[w.heap.size+1+1]?=some (jC #[ptr (w.heap.size+1)] 57)
 fs:∃nf f,kB wx M nf f/\∀(j:Nat)(F:eR),L[j]?=some F->∃vp cb,cs[j*4+2]?=some vp/\f F.nm=some (.agg #[vp,.func (.func 87) #[] cb])/\pK wx (w.heap.size+1) F.body (.func (.func 87) #[] cb)
theorem QQ{W:jW}{g:jU}{L:List eR}(k:az w c)(l:c.heap.size=w.heap.size+3)(m:c.heap[w.heap.size]?=some (jC #[jV 0,jV 0,jS] 29))(n:c.heap[w.heap.size+1]?=some (jC #[.map none,g,jS,jV (a:Int),jV 0] 60))(o:c.heap[w.heap.size+1+1]?=some (jC #[ptr (w.heap.size+1)] 57))
  (r:az c W) (h:NT W (w.heap.size+1) L cs d L.length):R5 w g a L cs W.heap.size (d.setCell ⟨w.heap.size+1,0,none⟩ (.map (some W.heap.size))):=by
 obtain⟨f,h1,h2,s,t⟩:=h.at';have u:=r.size;have x:=r.trans (h1.mono u);have q:∀b,b<c.heap.size->b≠w.heap.size+1->(d.setCell ⟨w.heap.size+1,0,none⟩ (.map (some W.heap.size))).heap[b]?=c.heap[b]?:=λb y z=>by rw[aG _ _ _ _ z,x.block b y]
 have A:=fR x n;have B:=Ei (i:=0) (v:= .map (some W.heap.size)) A;refine⟨(k.trans (x.mono (by omega))).setCell (p:=⟨w.heap.size+1,0,none⟩) (by show w.heap.size<=w.heap.size+1;omega) _,?_,by rw[q _ (by omega) (by omega)];exact m,?_,by rw[q _ (by omega) (by omega)];exact o,L.length,f,s.kept ?_,λj F C=>?_⟩
 ·have e:(d.setCell ⟨w.heap.size+1,0,none⟩ (.map (some W.heap.size))).heap.size=d.heap.size:=by simp[World.setCell]
  have:=x.size;omega
 ·exact aH _ _ _ _ _ _ A
 ·exact aG _ _ _ _ (by show W.heap.size≠w.heap.size+1;omega)
 ·obtain⟨D,cb,E,G,H⟩:=t j F (aK.1 C).1 C;exact⟨D,cb,E,G,H.kept B⟩
abbrev Jg(w a:jW)(L:List eR)(b:Nat):Cx:=⟨a,w.heap.size+1,.map (some b),iQ L⟩
theorem NG{b:jW}{c:jU}{L:List eR}{d:Nat}(h:R5 w c a L cs d b)(e:∀(i:Nat)(f:eR),L[i]?=some f->∃(k l:jU)(m:Nat)(n:jE),fy (Lo w.heap.size) w 144 2 k f.ps.length (lA f.ps)/\fy (Lo w.heap.size) w 147 7 l m n/\ey (Lo w.heap.size) w f.body n/\cs[i*4]?=some (str f.nm)/\cs[i*4+1]?=some (jV f.at')/\cs[i*4+2]?=some k/\cs[i*4+3]?=some l)
  (o:∀F∈L,qF F/\RF F) (q:∀F∈L,oK (iQ L) F.body):nS (Jg w b L d)/\∀nm F,(Jg w b L d).fs nm=some F->SN (Jg w b L d) nm F:=by
 refine⟨⟨_,h.k1⟩,λnm F r=>?_⟩;have s:F∈L:=bu r;have t:F.nm=nm:=by simpa using dB r
 obtain⟨j,u⟩:=a7 s;obtain⟨v,f,x,y⟩:=h.fs;obtain⟨k,cb,z,A,B⟩:=y j F u;obtain⟨C,l,m,n,D,E,G,H,I,J,K⟩:=e j F u;rw[z]at J;injection J with J;subst J;have M:=D.kept (eu h.bel) (by decide);obtain⟨q9,cp,N⟩:=mY M;refine⟨⟨q9,cp,87,cb,⟨d,v,f,rfl,x,by rw[<-t,A,N]⟩,λi p O=>?_,B⟩,λp O=>ou ((o F s).2.2.2.1 p O).1,(o F s).1,q F s⟩;obtain⟨⟨P,Q⟩,-⟩:=M;rcases Q with⟨_,S⟩|⟨g,T,U,V,_,W,hc,_,_,Y⟩
 ·have:=(aK.1 O).1;omega
 ·rw[N]at V;injection V with V _ _;refine⟨g,U,V,W,?_⟩;have:=(kV F.ps i p O).1;rw[<-Y,bZ]at this;split at this
  ·simpa using this
  ·cases this
theorem QR{L:List eR}{k:Nat}{inp:List Int}(h:R5 w f a L cs k d)(l:oW w f inp)(m:a<=1000000)(r:az d w'):St d (w.heap.size+1) (.map (some k)) w' ⟨[],f,jS,⟨a,inp,[],[]⟩⟩ 0:=by
 have s:=h.z;refine⟨by omega,r.size,λb t _=>r.block b t,?_,?_,bj _ _ _ _,λi u=>(by cases u),rfl,λi b n u=>(by simp at u),λb r=>(by simp at r),(by simp),m,(by simp),by omega⟩
 ·exact fR r h.k1
 ·obtain⟨q,c,e,v⟩:=l;refine⟨q,c,e,?_⟩;rcases v with v|⟨g,o,y,h1,h2,A⟩
  ·exact .inl v
  ·exact .inr ⟨g,o,y,by omega,by omega,h2,λj x B=>by rw[h.bel.cell (p:=(jB g (o+j))) h1];exact A j x B⟩
theorem gone{e:jW}{L:List eR}{g:Nat}{j:Rs}{d:Nat}(h:R5 w f a L cs g c)(l:St c (w.heap.size+1) (.map (some g)) e j d){m:jW}{r:Rs}{E:Nat->Prop}(n:az c m)(o:Fz (w.heap.size+1) E m r e j):
  az w e/\e.heap[w.heap.size]?=some (jC #[jV 0,jV 0,jS] 29)/\e.heap[w.heap.size+1+1]?=some (jC #[ptr (w.heap.size+1)] 57)/\e.cell? ⟨w.heap.size+1,2,none⟩=some j.ov/\e.ownsRow w.heap.size 2 1 j.ov j.s.out.length (fI j.s.out)/\∀k,j.ov.ownBlock=some k->w.heap.size+3<=k:=by
 have p:=h.z;refine⟨⟨o.os.trans (n.os.trans h.bel.os),o.tape.trans (n.tape.trans h.bel.tape),o.output.trans (n.output.trans h.bel.output),aP h.bel.size l.le,λb n=>by rw[l.kp b (by omega) (by omega)];exact h.bel.block b n⟩,by rw[l.kp _ (by omega) (by omega)];exact h.k0,by rw[l.kp _ (by omega) (by omega)];exact h.k2,jc 2 l.pb,jd l.out (by omega),λk hk=>aP p (l.out.lt k hk).1⟩
theorem mq{a:jW}{out:List Int}{d e:Int}(f:az w a)(g:a.heap[w.heap.size]?=some (jC #[jV 0,jV 0,jS] 29))(h:a.ownsRow w.heap.size 2 1 b out.length (fI out))(hk:∀k,b.ownBlock=some k->w.heap.size+3<=k):
  AK (d,e,out) w (jR (.agg #[jV d,jV e,b])) (((a.setCell (jA w.heap.size) (jV d)).setCell (jB w.heap.size 1) (jV e)).setCell (jB w.heap.size 2) b):=by
 obtain⟨p,c,rfl⟩:=eh h;refine⟨p,c,rfl,fX h (λi j=>?_),((f.setCell (p:=(jA w.heap.size)) (aD _) _).setCell (p:=(jB w.heap.size 1)) (aD _) _).setCell (p:=(jB w.heap.size 2)) (aD _) _⟩;have:=hk i j;rw[aG _ _ _ _ (by show i≠w.heap.size;omega),aG _ _ _ _ (by show i≠w.heap.size;omega),aG _ _ _ _ (by show i≠w.heap.size;omega)]
theorem Ej(w:jW)(v iv:jU)(L:List eR)(hl:ze (Lo w.heap.size) w v L)(A7:L.length<=12)(hg:∀F∈L,qF F/\RF F)(hc:chk L= .ok true)(inp:List Int)(B3:oW w iv inp)(a:Nat)(ha:a<=1000000)(g:Nat)(D3:(Aq (g+2) L inp a).1≠99):
  aA 12 #[v,iv,jV (a:Int)] w (AK (Aq (g+2) L inp a) w):=by
 obtain⟨cs,D,A2⟩:=hl.row;obtain⟨q,c,rfl⟩:=eh D.1;obtain⟨D1,A1,y,r,B1⟩:=Kg (λF hF=>(hg F hF).2) hc;obtain⟨E,Q,rfl,C5⟩:=id B3;have E6:=zb;obtain⟨W3,t⟩:=aB (((w.alloc (jC #[jV 0,jV 0,jS] 29)).alloc (jC #[.map none,jL E inp.length Q,jS,jV (a:Int),jV 0] 60)).alloc (jC #[ptr (w.heap.size+1)] 57));have x:az w W3:=by rw[t];exact(lU _ _ _).alloc (by simp;omega) _
 have A9:W3.heap.size=w.heap.size+3:=by rw[t];simp
 have k0:W3.heap[w.heap.size]?=some (jC #[jV 0,jV 0,jS] 29):=by rw[t];exact ez (IC _ _ _) _
 have k1:W3.heap[w.heap.size+1]?=some (jC #[.map none,jL E inp.length Q,jS,jV (a:Int),jV 0] 60):=by rw[t];exact ez (zE _ _ _) _
 have k2:W3.heap[w.heap.size+1+1]?=some (jC #[ptr (w.heap.size+1)] 57):=by
  rw[t];have:=heap_alloc_last ((w.alloc (jC #[jV 0,jV 0,jS] 29)).alloc (jC #[.map none,jL E inp.length Q,jS,jV (a:Int),jV 0] 60)) (jC #[ptr (w.heap.size+1)] 57);simpa using this
 have C4:ze (Lo W3.heap.size) W3 (jL q L.length c) L:=(hl.kept (eu x)).mono (λb hb _=>by have:b<w.heap.size:=hb;show b<W3.heap.size;omega);have D2:Hid (aA 16 #[jL q L.length c] W3 λe w'=>e=jR .nilIface/\az W3 w'):=(uW W3 _ L C4 A7 hg).mono λe w' hp=>by
  obtain⟨⟨_,rfl⟩|⟨h,_⟩|⟨k,a,b,h,_⟩,hb⟩:=hp
  ·exact⟨rfl,hb⟩
  ·rw[hc]at h;cases h
  ·rw[hc]at h;cases h
 have C7:Hid (∀W,az W3 W->aA 29 #[ptr (w.heap.size+1),jL q L.length c] W (NU (w.heap.size+1) L cs W)):=λW hb=>by
  have T:=x.trans (hb.mono x.size);have B:∀b,Lo w.heap.size b->b<W.heap.size->Lo W.heap.size b:=λb h1 h2=>h2;refine uk W _ (w.heap.size+1) L cs ((D.kept (eu T) (by decide)).mono B) (λi f hf=>?_) A7 hg D1;obtain⟨vp,vb,nb,E1,a1,a2,a3,a4⟩:=A2 i f hf;exact⟨vp,vb,nb,E1,(a1.kept (eu T) (by decide)).mono B,(a2.kept (eu T) (by decide)).mono B,ey.mono B _ _ (ey.kept (eu T) _ _ a3),a4⟩
 obtain⟨n,hn⟩:=aB L.length;obtain⟨Y,P⟩:=aB inp.length;have E7:=jI (jN hn P);rw[<-hn]at D2 C7⊢;rw[<-P]at k1 t⊢;generalize hG:AK (Aq (g+2) L inp a) w=G;obtain⟨HG,E5,E0⟩:=j3 hG (λW w2 (hb:az W3 W) (h:NT W (w.heap.size+1) L cs w2 L.length)=>QQ x A9 k0 k1 k2 hb h) (λwx M (h:R5 w (jL E Y Q) a L cs M wx)=>NG h A2 hg A1);have D7:Hid (oW w (jL E Y Q) inp):=by rw[P];exact B3
 have D8:=jI D3;have B2:=jI (Jf r B1 g inp a);have A6:Hid (iQ L iC=some y/\y.ps=[]/\y∈L/\qF y):=⟨r,B1,bu r,(hg y (bu r)).1⟩;have p2:W3.cell? ⟨w.heap.size+1+1,0,none⟩=some (ptr (w.heap.size+1)):=jc 0 k2;have p1:W3.cell? ⟨w.heap.size+1,0,none⟩=some (.map none):=jc 0 k1;have f1:=ea k1 0;have N:=jI A9;have A4:=jI (jN p2 (jN p1 f1));clear hn P hl D A2 hg hc B3 C5 D3 D1 A1 r B1 x A9 k0 k1 k2 C4 hG A7 p2 p1 f1
 go_enter_defers Tryz.func12,Tryz.ntmps12
 go_wp2_with(go_at_call 16;fail)
 rw[<-t];clear t;refine D2.mono ?_;rintro e w1 ⟨rfl,I⟩;have C:=jI I;have q2:w1.cell? ⟨w.heap.size+1+1,0,none⟩=some (ptr (w.heap.size+1)):=by rw[I.cell (p:=⟨w.heap.size+1+1,0,none⟩) (by have:=N.out;show w.heap.size+1+1<_;omega)];exact A4.out.1
 have E4:w.heap.size+1+1<w1.heap.size:=by have:=I.size;have:=N.out;omega
 clear I
 go_upto_region 5 with fail
 go_cut [] from 9 to 37 (λwx=>∃M,Hid (R5 w (jL E Y Q) a L cs M wx))
 case first=>
  go_region_held3(λw'=>w'.cell? ⟨w.heap.size+1+1,0,none⟩=some (ptr (w.heap.size+1)))
   (first|(go_keep;done)|((try dsimp only);first|(go_keep;done)|(go_simp;done)|(simp[*];done)|assumption|(rw[bq (by intro e;injection e;omega)];assumption)))
   (first|(go_at_call 29;refine(C7 _ C.drew).mono ?_;rintro e w2 ⟨rfl,A8⟩;have H:Below w1.drew.heap.size w1.drew w2:=(by obtain⟨f,h1,_⟩:=A8.at';exact h1);have t2:w2.cell? ⟨w.heap.size+1+1,0,none⟩=some (ptr (w.heap.size+1)):=(H.cell (p:=⟨w.heap.size+1+1,0,none⟩) (by show w.heap.size+1+1<w1.heap.size;omega)).trans (by go_simp);have t1:w2.cell? ⟨w.heap.size+1,0,none⟩=some (.map none):=(H.cell (p:=⟨w.heap.size+1,0,none⟩) (by show w.heap.size+1<w1.heap.size;omega)).trans ((C.cell (p:=⟨w.heap.size+1,0,none⟩) (by have:=N.out;show w.heap.size+1<_;omega)).trans A4.out.2.1);have t3:w2.frozen? ⟨w.heap.size+1,0,none⟩=false:=(H.frozen (p:=⟨w.heap.size+1,0,none⟩) (by show w.heap.size+1<w1.heap.size;omega)).trans ((C.frozen (p:=⟨w.heap.size+1,0,none⟩) (by have:=N.out;show w.heap.size+1<_;omega)).trans A4.out.2.2);have D5:Hid (R5 w (jL E Y Q) a L cs w1.drew.heap.size (w2.setCell ⟨w.heap.size+1,0,none⟩ (.map (some w1.drew.heap.size)))):=E5 _ _ C.drew A8;clear H A8))
  all_goals (go_wp2_with fail;go_meet;exact⟨_,D5⟩)
 case rest=>
  obtain⟨M,V⟩:=hcut;obtain⟨m,D0⟩:=aB wc;rw[<-D0]at V⊢;clear D0 q2 E4;have d2:m.cell? ⟨w.heap.size+1+1,0,none⟩=some (ptr (w.heap.size+1)):=jc 0 V.k2;have d1:m.cell? ⟨w.heap.size+1,0,none⟩=some (.map (some M)):=jc 0 V.k1;obtain⟨hP,B8⟩:=E0 m M V;have R:=B8 iC y A6.out.1;obtain⟨q9,cp,kb,cb,⟨Mf,nf,f,ef,hm,r⟩,-,B5⟩:=R.go;have E3:M=Mf:=by
   have A5:=ef;injection A5 with A5;injection A5
  subst E3;obtain⟨np,C0⟩:=aB y.ps.length;rw[<-C0]at r;have ek:kb=87:=by
   obtain⟨_,_,_,_,e,_⟩:=B5;injection e with e _ _;injection e
  subst ek;obtain⟨mb,E2⟩:∃mb:ByteArray,mb=⟨#[109,97,105,110]⟩:=⟨_,rfl⟩;have J:∀W:jW,W.heap[M]?=m.heap[M]?->(Instr.lookup 58 (.map (some M)) (jT ⟨#[109,97,105,110]⟩) false).run Tryz.prog W= .ok (.agg #[jL q9 np cp,.func (.func 87) #[] cb]) W:=λW hW=>by
   have:=(hm.kept hW).look H_ (Ia W) ⟨#[109,97,105,110]⟩ (by decide);rw[this];have e:(⟨#[109,97,105,110]⟩:ByteArray).data.toList=iC:=rfl;rw[e,r];rfl
  have A3:=hm.lt;have l1:=J m.drew rfl;have l2:=J (m.alloc (.map #[] 0)).drew ((ik m (.map #[] 0)).block M A3);have E8:∀W:jW,(Instr.makeMap 71 none).run Tryz.prog W= .ok (.map (some W.heap.size)) (W.alloc (.map #[] 0)):=λW=>by simp[Instr.makeMap,go_sem]
  have B7:=(ik m (.map #[] 0)).drew;have C3:=QR V D7 ha B7;have B9:jw (m.alloc (.map #[] 0)).drew m.heap.size 0 [] []:=⟨λ_=>none,(kB.made m).kept rfl,λnm=>⟨jS,rfl,rfl⟩⟩;have hB:=Jv hP B8 (g+1) y.body _ A6.out.2.2.2.1 A6.out.2.2.2.2.1 B5 R.ok;have A0:∀out,fK (iQ L) (g+1) 0 [] y.body ⟨a,inp,[],[]⟩≠.error (99,out):=λout e=>by
   have:=B2.out;rw[e]at this;exact D8 (by rw[this])
  have C1:Hid (aA 30 #[ptr (w.heap.size+1),.agg #[jL q9 np cp,.func (.func 87) #[] cb],.map (some m.heap.size)] (m.alloc (.map #[] 0)).drew (CP (Jg w m L M) (m.alloc (.map #[] 0)).drew ⟨[],jL E Y Q,jS,⟨a,inp,[],[]⟩⟩ 0 m.heap.size (fK (iQ L) (g+1) 0 [] y.body ⟨a,inp,[],[]⟩))):=uD hP hB BD q9 np cp _ _ 0 m.heap.size 0 1000000 [] C3 B9 (aD _) (by show 0+a<=1000000;omega) (by omega) A0;have C2:=jI (λw5 r' (h1:St m (w.heap.size+1) (.map (some M)) w5 r' 0) (h2:Fz (w.heap.size+1) (λb=>b=m.heap.size) (m.alloc (.map #[] 0)).drew ⟨[],jL E Y Q,jS,⟨a,inp,[],[]⟩⟩ w5 r')=>gone V h1 B7 h2);have E9:=V.z;have D6:=jI J;have C9:M≠w.heap.size+1:=λe=>by
   obtain⟨es,D9,ho⟩:=hm.obj;rw[e,V.k1]at ho;cases ho
  have HM:=jI (jN A3 C9);clear hP B8 R ef hm r B5 C0 J B7 C3 B9 hB A0 E2 A3 C9
  go_upto_region 6 with fail
  go_cut [8] from 9 to 37 (λv8 wx=>∃z p l c,v8=jV z/\wx.cell? ⟨w.heap.size+1+1,0,none⟩=some (ptr (w.heap.size+1))/\wx.cell? ⟨w.heap.size+1,2,none⟩=some (jL p l c)/\Hid (wx.heap[w.heap.size]?=some (jC #[jV 0,jV 0,jS] 29)/\G (jR (.agg #[jV 1,jV z,jL p l c])) (((wx.setCell (jA w.heap.size) (jV 1)).setCell (jB w.heap.size 1) (jV z)).setCell (jB w.heap.size 2) (jL p l c))))
  case first=>
   refine Code.wp_mono (AY (B6:=w.heap.size) (ds:=[{target:=Target.fn (Fn.func 28) #[ptr (w.heap.size+1+1),ptr w.heap.size],args:=#[]}]) (W:=λc w5=>Hid (∃Z d p l O,c={v:= .iface 61 (jV Z),recovered:=false}::d/\(∀z∈d,z.goexit=false)/\w5.cell? ⟨w.heap.size+1+1,0,none⟩=some (ptr (w.heap.size+1))/\w5.cell? ⟨w.heap.size+1,2,none⟩=some (jL p l O)/\w5.heap[w.heap.size]?=some (jC #[jV 0,jV 0,jS] 29)/\G (jR (.agg #[jV Z,jV 0,jL p l O])) (((w5.setCell (jA w.heap.size) (jV Z)).setCell (jB w.heap.size 1) (jV 0)).setCell (jB w.heap.size 2) (jL p l O)))) ?pan) ?_
   case pan=>
    intro c a' w5 hd h6 hW;obtain⟨Z,d,p,l,O,rfl,hold,g3,g4,A,hg⟩:=hW.out;show Leaves Tryz.prog Tryz.f12 a'.tmps G a'.defers _ w5;rw[hd];refine bP (f:=28) (args:=#[ptr (w.heap.size+1+1),ptr w.heap.size]) (by simp) (by simp[go_sem]) ?_
    refine(vW (w.heap.size+1+1) w.heap.size (w.heap.size+1) Z d p l O w5 g3 g4 A).mono ?_;rintro e u' w6 ⟨rfl,rfl,rfl⟩;show Leaves Tryz.prog Tryz.f12 a'.tmps G [] (settle _) _;rw[sF rfl hold];exact⟨_,uw _ _ w.heap.size _ _ _ h6 (EL A),hg⟩
   refine wp_region_held_drew (S:=λw'=>w'.cell? ⟨w.heap.size+1+1,0,none⟩=some (ptr (w.heap.size+1))/\w'.cell? ⟨w.heap.size+1,0,none⟩=some (.map (some M))/\(Instr.lookup 58 (.map (some M)) (jT ⟨#[109,97,105,110]⟩) false).run Tryz.prog w'= .ok (.agg #[jL q9 np cp,.func (.func 87) #[] cb]) w') (by kernel_rfl) ?_ (λj=>?_)
   ·exact⟨d2,d1,l1⟩
   refine iW 0 j ?_;simp only[Act.put,zS];refine iW 1 j ?_;simp only[Act.put,zS];refine iW 2 j ?_;simp only[Act.put,zS];refine iW 3 j ?_;simp only[Act.put,zS];refine iW 4 j ?_;simp only[Act.put,zS];refine iW 5 j ?_;simp only[Act.put,zS];refine wpAnyH_ready (rs:=[6]) (by kernel_rfl) (by simp) ?_;refine AllReadyH.cons (o:={dst:=some 30,op:=Op.makeMap 71 none,type:=71,pos:= "run.go:22",after:=#[],guard:=none}) rfl (fun K hK=>?_) AllReadyH.nil
   go_simp
   refine hK _ _ ⟨((ik m (.map #[] 0)).drew.cell (p:=⟨w.heap.size+1+1,0,none⟩) (by show w.heap.size+1+1<_;omega)).trans d2,((ik m (.map #[] 0)).drew.cell (p:=⟨w.heap.size+1,0,none⟩) (by show w.heap.size+1<_;omega)).trans d1,l2⟩ (fun _=>?_);clear hK K;refine wpAnyH_ready (rs:=[7]) (by kernel_rfl) (by simp) ?_;refine AllReadyH.cons (o:={dst:=some 31,op:=Op.call {callee:=Callee.value (Operand.func 30),args:=#[Operand.tmp 24,Operand.tmp 29,Operand.tmp 30],argTypes:=#[57,69,71]},type:=2,pos:= "run.go:22",after:=#[⟨0,.data⟩,⟨5,.data⟩,⟨6,.data⟩],guard:=none}) rfl (fun K hK=>?_) AllReadyH.nil
   go_simp
   refine C1.mono ?_;rintro e w5 ⟨r',h',B0,⟨n9,hx,rfl⟩|⟨Z,out,hx,D4⟩⟩
   rotate_left
   ·obtain⟨C6,d,rfl,hold⟩:=D4;obtain⟨g1,A,g3,g4,g5,g6⟩:=C2 w5 r' h' B0;obtain⟨p,O,u⟩:=eh g5;refine⟨rfl,rfl,?_⟩;show∃Z d,_;refine⟨Z,d,rfl,hold,jc 0 g3,p,r'.s.out.length,O,by rw[g4,u],A,?_⟩;have D:=B2.out;rw[hx]at D;rw[<-HG.out,D,<-u,<-C6];exact mq g1 A g5 g6
   ·obtain⟨g1,A,g3,g4,g5,g6⟩:=C2 w5 r' h' B0;obtain⟨p,O,u⟩:=eh g5;have HE:Hid (∃p l c,w5.cell? ⟨w.heap.size+1+1,0,none⟩=some (ptr (w.heap.size+1))/\w5.cell? ⟨w.heap.size+1,2,none⟩=some (jL p l c)/\Hid (w5.heap[w.heap.size]?=some (jC #[jV 0,jV 0,jS] 29)/\G (jR (.agg #[jV 1,jV n9,jL p l c])) (((w5.setCell (jA w.heap.size) (jV 1)).setCell (jB w.heap.size 1) (jV n9)).setCell (jB w.heap.size 2) (jL p l c)))):=by
     refine⟨p,r'.s.out.length,O,jc 0 g3,by rw[g4,u],A,?_⟩;have D:=B2.out;rw[hx]at D;rw[<-HG.out,D,<-u];exact mq g1 A g5 g6
    have B4:w5.cell? ⟨w.heap.size+1+1,0,none⟩=some (ptr (w.heap.size+1))∧w5.cell? ⟨w.heap.size+1,0,none⟩=some (.map (some M))∧(Instr.lookup 58 (.map (some M)) (jT ⟨#[109,97,105,110]⟩) false).run Tryz.prog w5= .ok (.agg #[jL q9 np cp,.func (.func 87) #[] cb]) w5:=⟨jc 0 g3,jc 0 h'.pb,D6 w5 (h'.kp M HM.out.1 HM.out.2)⟩;refine hK _ _ B4 (fun _=>?_);clear hK K h' B0 hx g1 A g3 g4 g5 g6 u;refine wpAnyH_ready (rs:=[8]) (by kernel_rfl) (by simp) ?_;refine AllReadyH.cons (o:={dst:=some 8,op:=Op.assign (Operand.tmp 31),type:=2,pos:= "run.go:22",after:=#[⟨7,.data⟩,⟨7,.chain⟩,⟨0,.phase⟩,⟨1,.phase⟩,⟨2,.phase⟩,⟨3,.phase⟩,⟨4,.phase⟩,⟨5,.phase⟩,⟨6,.phase⟩,⟨7,.phase⟩],guard:=none}) rfl (fun K hK=>?_) AllReadyH.nil
    go_simp
    refine hK _ _ B4 (λ_=>?_);clear hK K B4;refine wpAnyH_done (by kernel_rfl) ?_ _;simp only[xy]
    go_wp2_with fail
    go_meet
    obtain⟨p,l,c,q1,q2,q3⟩:=HE.out;exact⟨n9,p,l,c,rfl,q1,q2,q3⟩
  case rest=>
   obtain⟨z,p,l,c8,rfl,q1,q2,U⟩:=hcut;obtain⟨w6,C8⟩:=aB wc;rw[<-C8]at q1 q2 U⊢;clear C8;have r0:=jc 0 U.out.1;have r1:=jc 1 U.out.1;have r2:=jc 2 U.out.1;have y0:=ea U.out.1 0;have y1:=ea U.out.1 1;have y2:=ea U.out.1 2;clear d1 d2 l1 l2;go_wp2;refine bP (f:=28) (args:=#[ptr (w.heap.size+1+1),ptr w.heap.size]) (by simp) (by simp[go_sem]) ?_
   refine(tC (w.heap.size+1+1) w.heap.size _).mono ?_;rintro e u' w7 ⟨rfl,rfl,rfl⟩;exact⟨_,uw _ _ w.heap.size _ _ _ rfl (EL U.out.1),U.out.2⟩
end Go.Proofs.YtnfhpdbbfejioaaGreatDoor
