/- PG PH PO PS PI SY YA PJ PL -/
import Derived.Test.YtnfhpdbbfejioaaGreatDoorJ23
import Derived.Test.YtnfhpdbbfejioaaGreatDoorJ14
import Derived.Test.YtnfhpdbbfejioaaGreatDoorJ22
import Derived.Test.YtnfhpdbbfejioaaGreatDoorJ25
set_option linter.unusedVariables false
set_option linter.unusedSimpArgs false
set_option maxRecDepth 100000
set_option maxHeartbeats 16000000
namespace Go.Proofs.YtnfhpdbbfejioaaGreatDoor.Mid
open Go Go.RowKit
variable {w W w':jW}{b a:Int}{out:List Int}{n:Nat}{e:Ending}{s:By}
theorem fnC:FnC:=λw nm a b c d e f g h1 h2 i u s' h=>um w nm a b c d e f g h1 h2 i h
theorem Tp:mL.all (λF=>decide (F.nm.length<=1000000))=true:=by kernel_rfl
theorem oW.own{B:Nat}{v:jU}{l:List Int}(h:w.ownsRow B 2 1 v l.length (fI l)):oW w v l:=by
 rcases id h.2 with⟨e,a⟩|⟨g,b,c,e,d,f,i,k,m,n⟩
 ·exact⟨none,0,by rw[e,a],.inl (bS.1 a)⟩
 ·refine⟨some (jA g),b,e,.inr ⟨g,0,rfl,(aC.1 f).1,i,λj x o=>?_⟩⟩;have:=h.cells (g:=g) (by rw[e];rfl) j (jV x) (by simp[fI,o]);rw[kw]at this;rw[bQ];exact this
theorem NZ(w:jW)(l:List Int):oW (w.alloc (jC (fI l).toArray 2)) (jL (some (jA w.heap.size)) l.length l.length) l:=by
 refine⟨_,_,rfl,.inr ⟨w.heap.size,0,rfl,by simp,aD _,λj x a=>?_⟩⟩;refine eo (heap_alloc_last w _) ?_;rw[bQ];simp[a]
theorem zi(w:jW)(a b:Int)(p q:jO)(n c d:Nat)(l:List Int)(h1:oW w (jL p n c) l)(h2:oW w (jL q n d) l)(f:l.length<=100000):
  aA 17 #[.agg #[jV a,jV b,jL p n c],.agg #[jV a,jV b,jL q n d]] w λe w'=>e=jR (.bool true)/\az w w':=by
 have g:=jI (λW h i (h1:oW W h l) (h2:oW W i l)=>yI W h i l h1 h2 f);have j:Hid (∀W,az w W->oW W (jL p n c) l/\oW W (jL q n d) l):=λW k=>⟨h1.below k,h2.below k⟩;clear h1 h2 f;go_enter Tryz.func17,Tryz.ntmps17
 go_wp2_with(go_at_call 13;fail)
 have k:az w ((w.alloc (jC #[jV a,jV b,jL p n c] 29)).alloc (jC #[jV a,jV b,jL q n d] 29)):=(eL _ _).trans ((eL (w.alloc _) _).mono (by simp));refine(g _ _ _ (j _ k).1 (j _ k).2).mono ?_;rintro e m ⟨rfl,o⟩;have r:=jI (k.trans (o.mono k.size));clear k o;go_wp2;go_ret;exact⟨rfl,r⟩
def Ou{α:Type}(x:ld α):Prop:=∀s,s.out.length<=200->(RJ (x s)).length<=200
theorem qc{α:Type}(a:α):Ou (gp a):=λs h=>h
theorem yq{α:Type}(k:Int):Ou (gt k:ld α):=λs h=>h
theorem qd{α b:Type}{x:ld α}{f:α->ld b}(c:Ou x)(d:∀a,Ou (f a)):Ou (gb x f):=λs h=>by
 have h1:=c s h;unfold gb;cases e:x s with
 |error k=>
  obtain⟨k,o⟩:=k;rw[e]at h1;exact h1
 |ok p=>
  obtain⟨a,g⟩:=p;rw[e]at h1;exact d a g h1
theorem Pm:Ou Dr:=λs h=>by
 unfold Dr;split<;>exact h
theorem KJ(n:Int):Ou (lO n):=λs h=>by
 unfold lO;split
 ·exact h
 ·show(s.out++[n]).length<=200;simp only[bh,aZ,bN];omega
theorem KL:Ou rE:=λs h=>h
theorem Pn(n:Int):Ou (qj n):=λs h=>by
 unfold qj;split<;>exact h
theorem Po(q:Option Nat):Ou (zX q):=λs h=>h
theorem KM(q:Option Nat)(i:Int):Ou (lQ q i):=λs h=>by
 unfold lQ;split<;>exact h
theorem Pp(q:Option Nat)(i n:Int):Ou (qm q i n):=λs h=>by
 unfold qm;split<;>exact h
theorem KN(c:By)(a b:Int):Ou (gU c a b):=by
 unfold gU;split
 ·exact yq _
 ·exact qc _
theorem KO{fs:By->Option Mf}{g:Nat}(a:∀d F k o,Ou (iK fs g d F k o))(d:Nat)(s:Ms)(o:List Vl):Ou (eI fs g d s o):=by
 unfold eI;split
 ·exact qc _
 split
 ·exact qd (KN _ _ _) (λ_=>qc _)
 split
 ·split
  ·exact yq _
  ·split
   ·exact yq _
   ·exact qd (a _ _ _ _) (λ_=>qc _)
 split
 ·exact Pn _
 split
 ·exact qd (Po _) (λ_=>qc _)
 split
 ·exact qd (KM _ _) (λ_=>qc _)
 split
 ·exact qd KL (λ_=>qc _)
 ·exact qc _
theorem MI(fs:By->Option Mf):∀g d F k o,Ou (iK fs g d F k o)
 |0=>λd F k o=>yq _
 |g+1=>λd F k o=>by
  have a:=MI fs g;rw[uz];refine qd Pm (λ_=>?_);split
  ·exact yq _
  ·split
   ·exact qc _
   split
   ·exact a _ _ _ _
   split
   ·split<;>exact a _ _ _ _
   split
   ·exact qd (KJ _) (λ_=>a _ _ _ _)
   split
   ·exact qd (Pp _ _ _) (λ_=>a _ _ _ _)
   split
   ·exact a _ _ _ _
   ·exact qd (KO a _ _ _) (λ_=>a _ _ _ _)
theorem KP(g:Nat)(L:List Mf)(inp:List Int)(a:Int):(gO g L inp a).2.2.length<=200:=by
 unfold gO;split
 ·split
  ·simp
  ·rename_i F c;have h:=(show Ou (fK (iQ L) g 0 F (List.replicate F.types.length (0,none))) by
    unfold fK;rw[if_neg (by omega)];exact MI (iQ L) g 1 F 0 _) ⟨a,inp,[],[]⟩ (by simp)
   cases b:fK (iQ L) g 0 F (List.replicate F.types.length (0,none)) ⟨a,inp,[],[]⟩ with
   |ok r=>
    obtain⟨z,d⟩:=r;rw[b]at h;exact h
   |error r=>
    obtain⟨k,out⟩:=r;rw[b]at h;exact h
 ·simp
theorem Gk(w:jW)(v:jU)(a:MB w v mL):aA 20 #[v] w λe w'=>∃cb q c,e=jR (.tuple #[ptr cb,.nilIface])/\gN w' cb q c EW/\az w w':=by
 have b:mL.length<=12:=by rw[Mw];omega
 refine uR fnC w v mL (lG a) (λW d=>?_) EW (by unfold EW;simp) (λi F m f g=>?_) b (λm g=>?_) (λF f=>?_)
 ·have:=sO (s:=mT) (by decide) Bk W v (a.below d);rw[Ra]at this;exact this
 ·have h:=bz.1 Rb F (aM f);obtain⟨⟨u,s'⟩,hk⟩:=dN.1 h;have j:m=TK F:=by
   unfold EW at g;rw[bw,f]at g;exact(aS g).symm
  refine⟨u,s',hk,?_⟩;rw[j];unfold TK;rw[hk]
 ·have:=bz.1 TL m g;simp only[bo,decide_eq_true_eq]at this;exact⟨⟨this.1,this.2.1⟩,this.2.2⟩
 ·have:=bz.1 Tp F f;simpa using this
theorem vV(w:jW)(a:sS 14 w)(b:AR w)(d:zq w):aA 19 #[] w λe w'=>e=jR (.bool true)/\az w w':=by
 have f:(⟨mT.toArray⟩:ByteArray).data.toList=mT:=rfl;have g:Hid (aA 14 #[jT ⟨#[102,110,32,109,97,105,110,40,41,32,123,32,118,97,114,32,97,32,61,32,110,101,119,40,50,41,59,32,97,91,49,93,32,61,32,54,59,32,105,102,32,40,97,91,49,93,32,62,32,53,32,38,38,32,108,101,110,40,97,41,32,61,61,32,50,41,32,123,32,112,114,105,110,116,32,97,91,49,93,59,32,125,32,114,101,116,117,114,110,32,102,40,97,44,32,50,41,59,32,125,32,102,110,32,102,40,120,58,32,97,114,114,44,32,110,58,32,105,110,116,41,32,123,32,114,101,116,117,114,110,32,120,91,110,93,59,32,125]⟩] w λe w'=>∃q c,e=jR (.tuple #[jL q 2 c,.nilIface])/\MB w' (jL q 2 c) mL/\az w w'):=by
  have:=uK (s:=⟨mT.toArray⟩) (L:=mL) a.env (by decide) (by rw[f];exact Bk);rw[Mw]at this;exact this
 have h:Hid (∀W,az w W->AR W/\zq W):=λW i=>⟨b.below i,d.below i⟩;have j:Hid (∀W cb q c,az w W->gN W cb q c EW->aA 22 #[ptr cb] W (BF true W)):=λW cb q c i hc=>by
  have:=rk W cb q c EW hc (b.below i) (d.below i);rw[JZ]at this;exact this
 have k:Hid (∀W cb q c,az w W->gN W cb q c EW->aA 24 #[ptr cb,jS,jV 1000] W λe w'=>∃p c,e=jR (.agg #[jV 3,jV 0,jL p 1 c])/\oW w' (jL p 1 c) [6]/\az W w'):=λW cb q c i hc=>by
  have:=Cu W cb q c EW jS [] 1000 1001 hc (b.below i) (d.below i) ⟨none,0,rfl,.inl rfl⟩ (by omega) (by decide);rw[Rc]at this;refine this.mono ?_;rintro e w' ⟨p,c,h1,h2,l⟩;exact⟨p,c,h1,oW.own h2,l⟩
 have m:=jI (λW n o (h1:oW W n [6]) (h2:oW W o [6])=>yI W n o [6] h1 h2 (by decide));have r:∀w:jW,(binOp .neq 34 .nilIface .nilIface).run Tryz.prog w= .ok (.bool false) w:=λw=>by kernel_rfl
 clear a f b d;go_enter Tryz.func19,Tryz.ntmps19
 go_wp2_with(go_at_call 14;fail)
 refine g.mono ?_;rintro e w1 ⟨q,c,rfl,t,u⟩;have v:=jI u;have x:=jI (Gk w1 _ t);clear u t
 go_wp2_with(go_at_call 20;fail)
 refine x.mono ?_;rintro e y ⟨cb,z,A,rfl,B,C⟩;have D:=jI (v.trans (C.mono v.size));have E:=jI B;clear B C;have F:=jI (j y cb z A D E)
 go_wp2_with(go_at_call 22;fail)
 refine F.mono ?_;rintro e G ⟨rfl,H⟩;have I:=jI (D.trans (H.mono D.size));have J:=jI (k G cb z A I (E.below H));clear H
 go_wp2_with(go_at_call 24;fail)
 refine J.mono ?_;rintro e K ⟨p,M,rfl,N,O⟩;have P:=jI N;have Q:=jI (I.trans (O.mono I.size));clear N O
 go_wp2_with(go_at_call 13;fail)
 have S:=NZ (K.alloc (jC #[jV 3,jV 0,jL p 1 M] 29)) [6];refine(m _ _ _ (P.below ((eL _ _).trans ((eL _ _).mono (by simp)))) (by simpa using S)).mono ?_;rintro e T ⟨rfl,U⟩;have V:Hid (az w T):=(Q.trans ((((eL K _).trans ((eL _ _).mono (by simp))):az K _).mono Q.size)).trans (U.mono (by have:=Q.size;simp;omega));clear U S;go_wp2;go_ret;exact⟨rfl,V⟩
def SZ(a b:Int)(out:List Int)(n:Nat)(W:jW)(e:Ending)(w':jW):Prop:=∃p c,e=jR (.agg #[jV a,jV b,jL p n c])/\n<=c/\oW w' (jL p n c) out/\az W w'
theorem AK.t{r:Int×Int×List Int}(d:r=(a,b,out))(f:n=out.length)(h:AK r W e w'):SZ a b out n W e w':=by
 subst d f;obtain⟨p,c,h1,h2,g⟩:=h;refine⟨p,c,h1,?_,oW.own h2,g⟩;rcases h2.2 with⟨e,i⟩|⟨g',j,k,e,_,_,l,_⟩
 ·have m:out.length=0:=i;omega
 ·injection e with _ _ e3;rw[e3];exact l
theorem AJ:∀(n f:Nat)(a:By)(l b:List eD),oZ n f a l= .ok b->b.length<=l.length+a.length+1
 |n,0,a,l,b,h=>by
  have c:=h;injection c with c;subst c;omega
 |n,f+1,a,l,b,h=>by
  rw[oZ]at h;split at h
  ·injection h with h;subst h;simp
  ·split at h
   ·cases h
   ·rename_i k t d;split at h
    ·cases h
    ·obtain⟨e,g⟩:=vJ d;have h1:=AJ n f _ _ _ h;have h2:=g_ false (a.drop t.length);rw[bK]at h2;rw[bh]at h1;simp only[aZ,bN]at h1;omega
theorem Jh{l:List eD}(h:qW s= .ok l):l.length<=s.length+1:=by
 have h1:=AJ _ _ _ _ _ h;have h2:=g_ false s;simp only[bN]at h1;omega
theorem Ek(hs:s.length<=1200){L:List eR}(h:gK s= .ok (chain (L.map eR.tr)))(hc:chk L= .ok true):(∀F∈L,LwF F (Sf.rT F))/\gy (L.map Sf.rT)=true/\Sf.Le L (L.map Sf.rT)/\0<jF (L.map Sf.rT)/\(∀m∈L.map Sf.rT,qN m.params/\m.name.length<=9223372036854775807)/\∀F∈L,F.nm.length<=1000000:=by
 obtain⟨hR,h12,l,t1,q1⟩:=rY (by omega) h;have gL:∀F∈L,RF F:=λF hF=>(hR F hF).2;have h3:=Jh t1;have hz:=Sf.Cs gL (n:=1200) (by omega);obtain⟨a1,a2,a3⟩:=Sf.NR gL hc hz h12;refine⟨λF hF=>?_,a2,a3,?_,λm hm=>?_,λF hF=>?_⟩
 ·obtain⟨wf,w1,w2⟩:=a1 F hF;exact⟨(),wf,w1,Sf.mH w1⟩
 ·have hne:L≠[]:=by
   rintro rfl
   revert a2
   decide
  obtain⟨F,L',rfl⟩:∃F L',L=F::L':=by cases L with|nil=>exact absurd rfl hne|cons F L'=>exact⟨F,L',rfl⟩
  obtain⟨wf,w1,w2⟩:=a1 F (by simp);have h4:0<(Sf.rT F).steps.length:=by rw[Sf.mH w1];exact cG.2 w2
  unfold jF;simp only[bO,List.sum_cons];omega
 ·obtain⟨F,hF,rfl⟩:=aT.1 hm;obtain⟨wf,w1,w2⟩:=a1 F hF;have h4:=hz F hF;have h5:=(gL F hF).2.1.2.2.2.2;rw[Sf.mH w1];refine⟨⟨?_,?_⟩,?_⟩
  ·show(-9223372036854775808:Int)<=(F.ps.length:Int);omega
  ·show(F.ps.length:Int)<=9223372036854775807;omega
  ·show F.nm.length<=_;omega
 ·have h5:=(gL F hF).2.1.2.2.2.2;omega
def QS(r:X Bool):Int:=match r with| .error (k,_)=>k|_=>8
theorem wS{r:X Bool}{c:jU}(h:xE r c w)(d:Tl.sZ w):aA 21 #[c] w λe w'=>e=jR (jV (QS r))/\az w w':=by
 rcases h with⟨rfl,rfl⟩|⟨k,a,b,rfl,rfl,f⟩
 ·exact Tl.FE 8 w d
 ·exact Tl.Km k a b w d f
theorem AK.t2{r:Int×Int×List Int}(c:r=(a,b,out))(d:n=out.length)(h:Go.Proofs.YtnfhpdbbfejioaaGreatDoor.AK r W e w'):SZ a b out n W e w':=AK.t c d h
def SmE(w:jW)(s:ByteArray)(a:jO)(b:Nat)(inp:List Int):Prop:=∀w',az w w'->sS 14 w'/\AR w'/\zq w'/\Tl.sZ w'/\oW w' (jL a inp.length b) inp
theorem xF(w:jW)(d:sS 14 w)(f:AR w)(j:zq w)(l:Tl.sZ w)(s:ByteArray)(o:jU)(inp:List Int)(p:oW w o inp):
  aA 6 #[jT s,o] w λe w'=>e=jR (.bool true)/\az w w':=by
 obtain⟨r,u,rfl,-⟩:=id p;have v:Hid (SmE w s r u inp):=λw' x=>⟨d.below x,f.below x,j.below x,l.below x,p.below x⟩;have y:=jI (vV w d f j);clear d f j l p;by_cases z:1200<s.size
 ·have A:(1200:Int)<s.size:=by omega
  go_enter Tryz.func6,Tryz.ntmps6;go_wp2;go_ret;exact⟨rfl,aJ _ _⟩
 have A:¬(1200:Int)<s.size:=by omega
 have B:Hid (s.data.toList.length<=1200):=by
  have C:s.data.toList.length=s.size:=rfl;show _<=_;omega
 by_cases D:20<inp.length
 ·have E:(20:Int)<inp.length:=by omega
  go_enter Tryz.func6,Tryz.ntmps6;go_wp2;go_ret;exact⟨rfl,aJ _ _⟩
 have E:¬(20:Int)<inp.length:=by omega
 obtain⟨G,H⟩:=aB inp.length;have I:=jI H;rw[<-H]at E⊢;have J:Hid (s.size<=1000000):=by show _<=_;omega
 clear z D H;go_enter Tryz.func6,Tryz.ntmps6
 go_wp2_with(go_at_call 19;fail)
 refine y.mono ?_;rintro e w1 ⟨rfl,x⟩;have K:=jI x;clear x y
 go_wp2_with(go_at_call 14;fail)
 cases N:gK s.data.toList with
 |error k=>
  refine(zO (v w1 K).1.env J N).mono ?_;rintro e O ⟨a,rfl,-,x⟩;have P:=jI (K.trans (x.mono K.size));have Q:=Mt (jP a);clear x;go_wp2;go_ret;exact⟨rfl,P⟩
 |ok t=>
  obtain⟨L,rfl,-,-,-⟩:=Bt (s:=s.data.toList) (by have:=B.out;omega) N;have S:=jI N;refine(uK (v w1 K).1.env J N).mono ?_;clear N;obtain⟨n,T⟩:=aB L.length;have U:=jI T;rw[<-T];clear T;rintro e O ⟨q,c,rfl,V,x⟩;have P:=jI (K.trans (x.mono K.size));have Y:=jI V;have Z:=jI (λW (o:az O W)=>sO (by have:=B.out;omega) S W _ (Y.below o));clear x V K;have d:∀w:jW,(binOp .neq 34 .nilIface .nilIface).run Tryz.prog w= .ok (.bool false) w:=λw=>by kernel_rfl
  by_cases f:chk L= .ok true
  ·obtain⟨j,l,p,A,C,E⟩:=Ek B S f;obtain⟨z,D,-⟩:=rY (by have:=B.out;omega) S;have H:Hid (aA 20 #[jL q n c] O λe w'=>∃cb q c,e=jR (.tuple #[ptr cb,.nilIface])/\gN w' cb q c (L.map Sf.rT)/\az O w'):=uR fnC O _ L (lG Y) (λW o=>by have:=Z W o;rw[f]at this;exact this) (L.map Sf.rT) (by simp) (λi F m y J=>by
    rw[bw,y]at J;injection J with J;subst J;exact j F (aM y)) D C E
   have N:Hid (∀W,az O W->aA 16 #[jL q n c] W λe w'=>e=jR .nilIface/\az W w'):=λW o=>(Z W o).mono λe w' h=>by
    obtain⟨⟨_,rfl⟩|⟨h,_⟩|⟨k,a,b,h,_⟩,x⟩:=h
    ·exact⟨rfl,x⟩
    ·rw[f]at h;cases h
    ·rw[f]at h;cases h
   obtain⟨g,T⟩:=Ix L inp 150;obtain⟨U,K,out,V⟩:∃U K out,Aq (g+2) L inp 150=(U,K,out):=⟨_,_,_,rfl⟩;obtain⟨no,d⟩:=aB out.length;have B:Hid (∀W,az O W->aA 12 #[jL q n c,jL r G u,jV 150] W (SZ U K out no W)):=λW o=>by
    have S:=(v W (P.trans (o.mono P.size))).2.2.2.2;rw[<-I.out]at S;exact(Ej W _ _ L (lG (Y.below o)) D z f inp S 150 (by omega) g (T 2).1).mono λe y h=>AK.t2 V d h
   obtain⟨M,J⟩:=aB (L.map Sf.rT);rw[<-J]at l p A H;have Y:U≠6->gO 1510001 M inp 1510000=(U,K,out):=λh=>by
    have:=Sf.PL p l (g:=g+2) (g':=1510001) (inp:=inp) (fuel:=150) (by omega) (by rw[V];have:=(T 2).1;rw[V]at this;exact⟨h,this⟩);rw[V]at this;exact this
   have S:Hid (U≠6->gO 1510001 M inp 1510000=(U,K,out)/\out.length<=200):=λh=>⟨Y h,by have h1:=KP 1510001 M inp 1510000;rw[Y h]at h1;exact h1⟩;obtain⟨ns,A0⟩:=aB (jF M);rw[<-A0]at A;obtain⟨A,A1,A2⟩:=j3 A0 l d;clear j l p C E z D T V d J Y A0 f Z
   go_wp2_with(go_at_call 20;fail)
   refine H.mono ?_;rintro e j ⟨cb,l,p,rfl,C,x⟩;have E:=jI x;have z:Hid (∀W,az j W->gN W cb l p M/\az w W/\az O W):=λW o=>⟨C.below o,P.trans ((x.trans (o.mono x.size)).mono P.size),x.trans (o.mono x.size)⟩;clear C x H
   go_wp2_with(go_at_call 16;fail)
   refine(N j E).mono ?_;rintro e D ⟨rfl,x⟩;have T:=jI x;clear x
   go_wp2_with(go_at_call 12;fail)
   refine(B D (z D T).2.2).mono ?_;rintro e V ⟨d,J,rfl,Y,N,x⟩;have C:=jI (T.trans (x.mono T.size));obtain⟨W6,B⟩:=aB (V.alloc (jC #[jV U,jV K,jL d no J] 29));have Y:az V W6:=by rw[B];exact eL _ _
   have A3:=jI (C.trans (Y.mono C.size));have A4:Hid (∀W,az W6 W->W.cell? (jA V.heap.size)=some (jV U)/\W.cell? (jB V.heap.size 1)=some (jV K)/\W.cell? (jB V.heap.size 2)=some (jL d no J)):=λW o=>by
    have A5:W6.heap[V.heap.size]?=some (jC #[jV U,jV K,jL d no J] 29):=by rw[B];exact heap_alloc_last _ _
    have A6:=(o.block _ (aC.1 A5).1).trans A5;exact⟨jc 0 A6,jc 1 A6,jc 2 A6⟩
   have A7:Hid (∀W,az W6 W->oW W (jL d no J) out/\az j W):=λW o=>⟨(N.below Y).below o,A3.trans (o.mono A3.size)⟩;have A8:Hid (∀W,az j W->aA 22 #[ptr cb] W λe w'=>e=jR (.bool true)/\az W w'):=λW o=>by
    obtain⟨h1,h2,-⟩:=z W o;have A9:=v W h2;have:=rk W _ l p M h1 A9.2.1 A9.2.2.1;rw[A1.out]at this;exact this
   clear x N Y
   go_upto_region 13 with fail
   rw[<-B];clear B;obtain⟨N,B,Y⟩:=A4 W6 (aJ _ _);by_cases N:U=6
   ·subst N
    go_wp2_with(go_at_call 22;fail)
    refine(A8 W6 A3).mono ?_;rintro e B ⟨rfl,x⟩;have Y:=jI (A3.trans (x.mono A3.size));clear x;go_wp2;go_ret;exact⟨rfl,(z B Y).2.1⟩
   ·have B0:(U==6)=false:=by simpa using N
    have B1:Hid (∀W,az j W->aA 24 #[ptr cb,jL r G u,jV 1510000] W (SZ U K out no W)):=λW o=>by
     obtain⟨h1,h2,-⟩:=z W o;have A9:=v W h2;have r:=A9.2.2.2.2;rw[<-I.out]at r;exact(Cu W _ l p M _ inp 1510000 1510001 h1 A9.2.1 A9.2.2.1 r ⟨by omega,by omega⟩ (by decide)).mono λe y h=>AK.t (S N).1 A2 h
    have u:Hid (∀W,az j W->aA 23 #[ptr cb] W (Te ns W)):=λW o=>by
     have:=CE W _ l p M (z W o).1;rw[<-A.out]at this;exact this
    have G:Hid (out.length<=100000):=by have:=(S N).2;show _<=_;omega
    have I:(0:Int)<(ns:Int):=by omega
    have r:Hid (az W6 W6.drew):=eH _ _;obtain⟨o,A,l⟩:=A4 W6.drew r
    go_upto_region 15 with fail
    go_region_held3(λw'=>w'.cell? (jA V.heap.size)=some (jV U)/\w'.cell? (jB V.heap.size 1)=some (jV K)/\w'.cell? (jB V.heap.size 2)=some (jL d no J))
     (first|exact⟨by with_reducible assumption,by with_reducible assumption,by with_reducible assumption⟩)
     (first
     |(go_at_call 22;refine(A8 _ (A7 _ r).2).mono ?_;rintro e B ⟨rfl,p⟩;have Y:Hid (az W6 B):=r.trans (p.mono r.size);obtain⟨S,N,I⟩:=A4 B Y;clear p)
     |(go_at_call 23;refine(u _ (A7 _ Y).2).mono ?_;rintro e o ⟨rfl,A⟩;have l:Hid (az W6 o):=Y.trans (A.mono Y.size);obtain⟨r,S,N⟩:=A4 o l;clear A)
     |(go_at_call 24;refine(B1 _ (A7 _ l).2).mono ?_;rintro e y ⟨B,u,rfl,p,I,Y⟩;have r:Hid (az W6 y):=l.trans (Y.mono l.size);obtain⟨S,o,A⟩:=A4 y r;have N:Hid (oW y (jL B no u) out):=I;clear Y I)
     |(go_at_call 17;refine(zi y U K B d no u J out N (A7 y r).1 G).mono ?_;rintro e p ⟨rfl,l⟩;have S:Hid (az W6 p):=r.trans (l.mono r.size);obtain⟨o,A,U⟩:=A4 p S;clear l))
    all_goals
     go_wp2;go_ret;exact⟨rfl,(z _ (A7 _ S).2).2.1⟩
  ·have K:=jI f;have H:=jI (CN O _ _ f Z);clear f
   go_wp2_with(go_at_call 20;fail)
   refine H.mono ?_;rintro e j ⟨⟨y,rfl,d⟩,x⟩;have E:=jI x;have J:=jI d;clear x d H
   go_wp2_with(go_at_call 16;fail)
   refine(Z j E).mono ?_;intro e D G;obtain⟨⟨B,rfl,d⟩,x⟩:=Bc K G;have T:=jI (E.trans (x.mono E.size));have u:=jI (jN (J.below x) d);have Q:=Bb d;have I:∀W:jW,(eqGuard BinOp.neq 34 (Operand.tmp 34) (Operand.const Value.nilIface) B Value.nilIface).run Tryz.prog W= .ok () W:=λW=>by
    rcases d with⟨_,rfl⟩|⟨k,a,b,_,rfl,_⟩
    ·kernel_rfl
    ·kernel_rfl
   clear G x d J
   go_wp2_with(go_at_call 21;fail)
   refine(wS u.out.1 (v D (P.trans (T.mono P.size))).2.2.2.1).mono ?_;rintro e V ⟨rfl,x⟩;have C:=jI (T.trans (x.mono T.size));have Y:=jI (u.out.2.below x);clear x u
   go_wp2_with(go_at_call 21;fail)
   refine(wS Y (v V (P.trans (C.mono P.size))).2.2.2.1).mono ?_;rintro e N ⟨rfl,x⟩;have A3:=jI (C.trans (x.mono C.size));clear x Y;generalize QS (chk L)=kk at*;go_wp2;go_ret;exact⟨rfl,P.trans (A3.mono P.size)⟩
def PI(w:jW)(v:jU)(l:List Int):Prop:=
 ∃q c,v=jL q l.length c/\l.length<=c/\(∀x∈l,qN x)/\(l=[]\/∃g o,q=some (jB g o)/\∀j x,l[j]?=some x->w.cell? (jB g (o+j))=some (jV x))
end Go.Proofs.YtnfhpdbbfejioaaGreatDoor.Mid
namespace Go.Proofs.YtnfhpdbbfejioaaGreatDoor.Mid
open Go Go.Deep Go.ChangeShapes Go.WideShapes Go.ChangeAt Go.WideMaps Go.WideElems Go.RowKit Go.ChangeMaps
theorem zt{w:jW}{a:Addr}{v:jU}(h:w.cell? a=some v):a.spot=none:=by
 unfold World.cell? at h;split at h
 ·cases b:a.spot with
  |none=>rfl
  |some x=>simp[b]at h
 ·cases h
theorem JD(g o j:Nat):((jB g o):Addr).add j=(jB g (o+j)):=by unfold Addr.add;split<;>simp_all
theorem N_{n:Int}(h:(Lit.int .i64 n).wf=true):qN n:=by
 simp only[Lit.wf,bo,decide_eq_true_eq]at h;exact⟨h.1,h.2⟩
theorem Oa:Tryz.prog.cellsOf 2=1:=by kernel_rfl
section
variable {H : Type} {enc : TypeId × Value → H} {W : World} {sp : Nat → Bool} {held : Bool}
theorem zu{t e:TypeId}{fuel:Nat}{cs:jE}{x:DataW H×List MemPlace}(b:Tryz.prog.underlying t=some (.slice e))(c:Tryz.prog.underlying e=some (.int .i64))(hc:Tryz.prog.cellsOf e=1)(h:DataW.trod enc Tryz.prog W 0 sp held fuel t cs=some x):∃v l,cs=[v]/\PI W v l:=by
 rcases open_ints b c hc h with⟨d,_⟩|⟨a,len,f,zs,d,_,i,k,m,_,n,p⟩
 ·exact⟨_,[],d,none,0,rfl,aD _,λx q=>(by cases q),.inl rfl⟩
 ·have r:len<=zs.length:=by rw[m];split<;>omega
  have s:(zs.take len).length=len:=by simp;omega
  refine⟨_,zs.take len,d,some a,f,by rw[s],by rw[s];exact i,λx q=>N_ (p x (List.mem_of_mem_take q)),?_⟩;by_cases u:zs.take len=[]
  ·exact .inl u
  have w:0<len:=by
   rcases b8 len with y|y
   ·subst y;simp at u
   ·exact y
  have y:=n 0 (by omega);have z:a.add 0=a:=by unfold Addr.add;rw[if_pos rfl]
  rw[z]at y;obtain⟨g,o,A⟩:=a;have B:=zt y;subst B;refine .inr ⟨g,o,rfl,λj x q=>?_⟩;have C:j<len:=by have:=(aK.1 q).1;omega
  have:=n j (by omega);rw[JD]at this;have e:zs.getD j 0=x:=by
   rw[dM C]at q;rw[aU,q];rfl
  rw[e]at this;exact this
theorem CK{v:jU}{d:DataW H}{p:List MemPlace}{r:Reach}{a:Nat}(b:Value.okWide Tryz.prog W r a 22 v)(h:DataW.Trod enc Tryz.prog W 0 sp held 22 v d p):∃l,oW W v l/\∀x∈l,qN x:=by
 obtain⟨f,i,j,rfl⟩:=okWide_slice Tryz.underlying22 b;obtain⟨fuel,k⟩:=h;obtain⟨m,l,h1,q,c,h2,n,s,t⟩:=zu Tryz.underlying22 Tryz.underlying2 Oa k;simp[Value.cells]at h1;subst h1;refine⟨l,⟨q,c,h2,?_⟩,s⟩;rcases t with t|⟨g,o,e,t⟩
 ·exact .inl t
 ·by_cases u:l=[]
  ·exact .inl u
  ·have w:0<l.length:=by
    rcases b8 l.length with y|y
    ·exact absurd (bS.1 y) u
    ·exact y
   exact .inr ⟨g,o,e,fE (t 0 l[0] (aI w)),n,t⟩
end
theorem JE{H:Type}{enc:TypeId×jU->H}{P:Program}{w:jW}{a:Nat}{sp:Nat->Bool}{held:Bool}{fuel:Nat}{t:TypeId}{b:Bool}{cs:jE}{p:List MemPlace}(c:P.underlying t=some .bool)(h:DataW.trod enc P w a sp held fuel t cs=some (.lit (.bool b),p)):cs=[.bool b]:=by
 obtain⟨n,h1,h2⟩:=DataW.trod_bool c h;simp only[cw,bV,Lit.bool.injEq]at h2;rw[h1,h2.1]
section
variable {H : Type} {enc : TypeId × Value → H} {w : World} {base : Nat} {sp : Nat → Bool} {held : Bool}
theorem ot{fuel:Nat}{l:jE}{t:TypeId}{k b:IntKind}{z:Int}{a:Nat}{p:List MemPlace}(c:Tryz.prog.underlying t=some (.int k))(hc:Tryz.prog.cellsOf t=1)
  (h:DataW.trod enc Tryz.prog w base sp held fuel t ((l.drop a).take (Tryz.prog.cellsOf t))=some (.lit (.int b z),p)):l[a]?=some (.int b z):=by
 have:=Hl c h;rw[hc]at this;have:=jf this 0 _ rfl;simpa using this
theorem EI{fuel:Nat}{l:jE}{t:TypeId}{z:Bool}{a:Nat}{p:List MemPlace}(b:Tryz.prog.underlying t=some .bool)(hc:Tryz.prog.cellsOf t=1)
  (h:DataW.trod enc Tryz.prog w base sp held fuel t ((l.drop a).take (Tryz.prog.cellsOf t))=some (.lit (.bool z),p)):l[a]?=some (.bool z):=by
 have:=JE b h;rw[hc]at this;have:=jf this 0 _ rfl;simpa using this
theorem rV{fuel:Nat}{cs:jE}{p:List MemPlace}{a:Nat}{s:By}(h:DataW.trod enc Tryz.prog w base sp held fuel 9 ((cs.drop a).take (Tryz.prog.cellsOf 9))=some (.lit (.string s),p)):cs[a]?=some (jT ⟨s.toArray⟩):=by
 obtain⟨x,h1,h2,_⟩:=DataW.trod_string Tryz.underlying9 h;simp only[cw,bV,cK]at h2;have:x=⟨s.toArray⟩:=by cases x with|mk d=>rw[h2.1]
 rw[this]at h1;have:=jf h1 0 _ rfl;simpa using this
end
theorem Ob:Tryz.prog.cellsOf 4=1:=by kernel_rfl
abbrev ky:List (String×DataW Unit):=[("math/bits.deBruijn32tab",Rows.laid_math_bits_deBruijn32tab),("math/bits.deBruijn64tab",Rows.laid_math_bits_deBruijn64tab),("internal/strconv.uint64pow10",Rows.laid_internal_strconv_uint64pow10),("unicode/utf8.acceptRanges",Rows.laid_unicode_utf8_acceptRanges),("bloomery/mid.marks",Rows.laid_bloomery_mid_marks),("bloomery/mid.forms",Rows.laid_bloomery_mid_forms),("strconv.ErrRange",Rows.laid_strconv_ErrRange),("strconv.ErrSyntax",Rows.laid_strconv_ErrSyntax),("bloomery/tree.marks",Rows.laid_bloomery_tree_marks),("bloomery/tree.pairs",Rows.laid_bloomery_tree_pairs),("unicode/utf8.first",Rows.laid_unicode_utf8_first)]
theorem JF:Tryz.prog.globalNamed "bloomery/mid.marks" =some 4:=by kernel_rfl
theorem JG:(Tryz.prog.globals[4]?).map (·.type)=some 264:=by kernel_rfl
theorem JH:Tryz.prog.globalNamed "bloomery/mid.forms" =some 3:=by kernel_rfl
theorem JI:(Tryz.prog.globals[3]?).map (·.type)=some 219:=by kernel_rfl
theorem JJ:(Rows.laid_bloomery_mid_marks:DataW Unit)= .agg (eY.map λr=> .lit (.string r)):=by kernel_rfl
theorem JK:(Rows.laid_bloomery_mid_forms:DataW Unit)= .agg ((List.range 15).map λj=> .agg [.lit (.int .i64 (l9 j).d),.lit (.int .i64 (l9 j).a),.lit (.int .i64 (l9 j).b),.lit (.int .i64 (l9 j).c),.lit (.bool (l9 j).g)]):=by kernel_rfl
theorem EJ:Tryz.prog.cellsOf 218=5:=by kernel_rfl
theorem xr{w:jW}{fuel:Nat}{cs:jE}{p:List MemPlace}(h:DataW.trod (λ_=>()) Tryz.prog w 0 (λ_=>true) false fuel 264 cs=some (.agg (Mid.eY.map λr=> .lit (.string r)),p))(j:Nat)(a:j<11):cs[j]?=some (jT ⟨(Mid.eY.getD j []).toArray⟩):=by
 obtain⟨m,d,b,hd,h2⟩:=ww Tryz.underlying264 h j a;rw[bw,sQ j a]at hd;simp only[cO,bm]at hd;subst hd;have:=rV h2;rw[vD,dX]at this;exact this
theorem Oc(j:Nat)(a:j<11):Mid.vM.getD j undef=jT ⟨(Mid.eY.getD j []).toArray⟩:=by
 have h:j=0\/j=1\/j=2\/j=3\/j=4\/j=5\/j=6\/j=7\/j=8\/j=9\/j=10:=by omega
 rcases h with rfl|rfl|rfl|rfl|rfl|rfl|rfl|rfl|rfl|rfl|rfl<;>rfl
theorem zw{w:jW}{fuel:Nat}{cs:jE}{p:List MemPlace}(h:DataW.trod (λ_=>()) Tryz.prog w 0 (λ_=>true) false fuel 219 cs=some (.agg ((List.range 15).map λj=> .agg [.lit (.int .i64 (l9 j).d),.lit (.int .i64 (l9 j).a),.lit (.int .i64 (l9 j).b),.lit (.int .i64 (l9 j).c),.lit (.bool (l9 j).g)]),p))(j:Nat)(e:j<15):
  cs[j*5]?=some (jV (l9 j).d)/\cs[j*5+1]?=some (jV (l9 j).a)/\cs[j*5+2]?=some (jV (l9 j).b)/\cs[j*5+3]?=some (jV (l9 j).c)/\cs[j*5+4]?=some (.bool (l9 j).g):=by
 obtain⟨m,d,f,hd,h2⟩:=ww Tryz.underlying219 h j e;rw[bw,List.getElem?_range e]at hd;simp only[cO,bm]at hd;rw[EJ]at h2;subst hd;obtain⟨_,i,_,k,l⟩:=pw Tryz.underlying218 h2 0 _ rfl;obtain⟨_,n,_,o,h1⟩:=pw Tryz.underlying218 h2 1 _ rfl;obtain⟨_,q,_,r,s⟩:=pw Tryz.underlying218 h2 2 _ rfl;obtain⟨_,t,_,u,v⟩:=pw Tryz.underlying218 h2 3 _ rfl;obtain⟨_,x,_,y,z⟩:=pw Tryz.underlying218 h2 4 _ rfl;cases k;cases o;cases r;cases u;cases y;have A:=ot Tryz.underlying3 sG l;have B:=ot Tryz.underlying3 sG h1;have C:=ot Tryz.underlying3 sG s;have D:=ot Tryz.underlying3 sG v;have E:=EI Tryz.underlying4 Ob z;have F:=jf (cs:=cs) rfl 0 _ A;rw[cn]at F;exact⟨F,jf rfl 1 _ B,jf rfl 2 _ C,jf rfl 3 _ D,jf rfl 4 _ E⟩
theorem JL{W:jW}(a:laidMetH Tryz.prog ky W)(b:W.ShapedOpen Tryz.prog):sS 14 W/\AR W/\zq W:=by
 have h:laidMet Tryz.prog ky W:=by
  rw[MakeChecks.laidMetH_plain _ _ _ (by kernel_rfl)]at a;exact a
 have c:=h.filter (fun x=> !(x.1== "bloomery/mid.marks" ||x.1== "bloomery/mid.forms"));rw[show ky.filter (fun x=> !(x.1== "bloomery/mid.marks" ||x.1== "bloomery/mid.forms"))=qy by kernel_rfl]at c;have d:laidMetH Tryz.prog qy W:=by
  rw[MakeChecks.laidMetH_plain _ _ _ (by kernel_rfl)];exact c
 have h1:=h.filter (fun x=>x.1== "bloomery/mid.marks");rw[show ky.filter (fun x=>x.1== "bloomery/mid.marks")=[("bloomery/mid.marks",Rows.laid_bloomery_mid_marks)] by kernel_rfl]at h1;have h2:=h.filter (fun x=>x.1== "bloomery/mid.forms");rw[show ky.filter (fun x=>x.1== "bloomery/mid.forms")=[("bloomery/mid.forms",Rows.laid_bloomery_mid_forms)] by kernel_rfl]at h2;obtain⟨_,⟨e,f,g,k,l,m,n,o,p,q,_,_⟩,_,_⟩:=h1;obtain rfl:=aS (JF.symm.trans n);obtain rfl:=aS (JG.symm.trans o);rw[JJ]at q;have r:∀i,W.cell? (jB 4 i)=g.toList[i]?:=fun i=>by rw[dg n p i];simp
 obtain⟨_,⟨s,t,u,v,w,y,z,A,B,C,_,_⟩,_,_⟩:=h2;obtain rfl:=aS (JH.symm.trans z);obtain rfl:=aS (JI.symm.trans A);rw[JK]at C;have D:∀i,W.cell? (jB 3 i)=u.toList[i]?:=λi=>by rw[dg z B i];simp
 refine⟨Li d b,λj E=>?_,λj E=>?_⟩
 ·rw[D,D,D,D,D];exact zw C j E
 ·rw[r,Oc j E];exact xr q j E
end Go.Proofs.YtnfhpdbbfejioaaGreatDoor.Mid
