/- QC RB RG QD QE QF HZ NJ QG -/
import Derived.Test.YtnfhpdbbfejioaaGreatDoorJ07
import Derived.Test.YtnfhpdbbfejioaaGreatDoorJ08
set_option linter.unusedVariables false
set_option linter.unusedSimpArgs false
set_option maxRecDepth 100000
set_option maxHeartbeats 16000000
namespace Go.Proofs.YtnfhpdbbfejioaaGreatDoor.Mid
open Go Go.RowKit
variable {w w':jW}{b o:Nat}
structure gN (w:jW) (cb:Nat) (q:jO) (c:Nat) (L:List Mf):Prop where
 c0:w.cell? (jA cb)=some (jL q L.length c)
 le:L.length<=c/\L.length<=1000000
 fn:L=[]\/∃g p,q=some (jB g p)/\∀j F,L[j]?=some F->eX w g (p+j*4) F
theorem qO.below{v:jU}{l:List Int}(h:qO w v l)(a:az w w'):qO w' v l:=by
 obtain⟨q,c,h1,h2,b,d⟩:=h;refine⟨q,c,h1,h2,b,?_⟩;rcases d with h|⟨g,o,e,h⟩
 ·exact .inl h
 ·exact .inr ⟨g,o,e,λj x f=>by rw[a.cell (p:=(jB g (o+j))) (fE (h j x f))];exact h j x f⟩
theorem g8.below{s:Ms}(h:g8 w b o s)(a:az w w'):g8 w' b o s:=by
 have c:∀(o:Nat)(v:jU),w.cell? (jB b o)=some v->w'.cell? (jB b o)=some v:=λo v d=>by rw[a.cell (p:=(jB b o)) (fE d)];exact d
 obtain⟨v,e,f⟩:=h.c9;exact⟨c _ _ h.c0,c _ _ h.c1,c _ _ h.c2,c _ _ h.c3,c _ _ h.c4,c _ _ h.c5,c _ _ h.c6,c _ _ h.c7,c _ _ h.c8,⟨v,c _ _ e,f.below a⟩,h.i1,h.i2⟩
theorem eX.below{f:Mf}(h:eX w b o f)(a:az w w'):eX w' b o f:=by
 have d:∀(o:Nat)(v:jU),w.cell? (jB b o)=some v->w'.cell? (jB b o)=some v:=λo v i=>by rw[a.cell (p:=(jB b o)) (fE i)];exact i
 obtain⟨v,h2,k⟩:=h.c2;obtain⟨q,c,l,m,n⟩:=h.c3;refine⟨d _ _ h.c0,d _ _ h.c1,⟨v,d _ _ h2,k.below a⟩,⟨q,c,d _ _ l,m,?_⟩,h.i1,h.i2⟩;rcases n with h|⟨g,p,e,h⟩
 ·exact .inl h
 ·exact .inr ⟨g,p,e,λj s r=>(h j s r).below a⟩
theorem gN.below{cb:Nat}{q:jO}{c:Nat}{L:List Mf}(h:gN w cb q c L)(a:az w w'):gN w' cb q c L:=by
 refine⟨by rw[a.cell (p:=(jA cb)) (fE h.c0)];exact h.c0,h.le,?_⟩;rcases h.fn with h|⟨g,p,e,h⟩
 ·exact .inl h
 ·exact .inr ⟨g,p,e,λj s b=>(h j s b).below a⟩
structure My (L:List Mf) (q:Option Addr) (i:Nat) (f:Lit->Option Value) (n:Nat):Prop where
 no:∀nm,f (.string nm)=none->∀(j:Nat)(F:Mf),j<i->L[j]?=some F->F.name≠nm
 yes:∀nm v,f (.string nm)=some v->∃(g p j:Nat)(F:Mf),q=some (jB g p)/\j<i/\L[j]?=some F/\F.name=nm/\v= .pointer (some (jB g (p+j*4)))
 le:n<=i
 eq:n=i↔((L.take i).map (·.name)).Nodup
def ST(L:List Mf)(q:jO)(w:jW)(e:Ending)(w':jW):Prop:=
 ∃f n,e=jR (.map (some w.heap.size))/\az w w'/\Mp 9 w' w.heap.size f n/\My L q L.length f n
structure SY (L:List Mf) (q:jO) (w wr:jW) (i:Nat):Prop where
 bel:az w wr
 at':∃f n,Mp 9 wr w.heap.size f n/\My L q i f n
theorem Oj{L:List Mf}{g p:Nat}{w wr A:World}{i:Nat}{F:Mf}(h:SY L (some (jB g p)) w wr i)(t:L[i]?=some F)(x:az wr A)(U:F.name.length<=9223372036854775807)(W:i<=1000000):
  ∃q,(Instr.mapUpdate 107 (.map (some w.heap.size)) (.string ⟨F.name.toArray⟩) (.pointer (some (jB g (p+i*4))))).run Tryz.prog A= .ok () q/\SY L (some (jB g p)) w q (i+1)/\A.grownBy q (some w.heap.size):=by
 obtain⟨f,n,M,m⟩:=h.at';have u:=M.lt;have P:=m.le;have hk:keyOf Tryz.prog 9 (.string ⟨F.name.toArray⟩)=some (.string F.name):=by
  have:=rI ⟨F.name.toArray⟩ (by simpa[ByteArray.size] using U);simpa using this
 let c:Lit->Option Value:=λy=>match y with
  | .string nm=>if nm=F.name then some (.pointer (some (jB g (p+i*4)))) else f (.string nm)
  |y=>f y
 obtain⟨q,h1,h2,J⟩:=(M.kept (x.block _ u)).put IM uT (by omega) hk trivial (.pointer (some (jB g (p+i*4)))) (g:=c) (by simp[c]) (λy S=>by
   cases y with
   |string nm=>
    have:nm≠F.name:=λe=>S (by rw[e]);simp[c,this]
   |_=>rfl)
 refine⟨q,h1,⟨?_,c,_,h2,⟨λnm D j G r d=>?_,λnm v s=>?_,?_,?_⟩⟩,J⟩
 ·exact(h.bel.trans (x.mono h.bel.size)).grown J (aP h.bel.size x.size) (λk e=>by injection e with e;omega)
 ·by_cases e:nm=F.name
  ·simp[c,e]at D
  ·simp only[c,if_neg e]at D;by_cases l:j=i
   ·subst l;rw[t]at d;injection d with d;subst d;exact λz=>e z.symm
   ·exact m.no nm D j G (by omega) d
 ·by_cases e:nm=F.name
  ·simp only[c,if_pos e,bm]at s;exact⟨g,p,i,F,rfl,by omega,t,e.symm,s.symm⟩
  ·simp only[c,if_neg e]at s;obtain⟨N,I,j,G,K,O,C,B,E⟩:=m.yes nm v s;exact⟨N,I,j,G,K,by omega,C,B,E⟩
 ·split<;>omega
 ·rw[gI t,cN,b_,<-m.eq];cases o:f (.string F.name) with
  |none=>
   simp only[Option.isSome_none,bI,if_false];constructor
   ·intro e;refine⟨by omega,by simp,λa Q b H z=>?_⟩;simp at H;obtain⟨G,d,rfl⟩:=aT.1 Q;obtain⟨j,r⟩:=a7 d;rw[bZ]at r;split at r
    ·rename_i l;exact m.no _ o j G l r (by rw[z,H])
    ·cases r
   ·intro e;omega
  |some v=>
   simp only[Option.isSome_some,if_true];constructor
   ·intro e;omega
   ·rintro⟨V,_,T⟩;obtain⟨N,I,j,G,K,O,C,B,E⟩:=m.yes _ v o;exact absurd B (T G.name (aT.2 ⟨G,aM (i:=j) (by rw[bZ,if_pos O];exact C),rfl⟩) F.name (by simp))
theorem sM(w:jW)(cb:Nat)(q:jO)(c:Nat)(L:List Mf)(h:gN w cb q c L):aA 45 #[ptr cb] w (ST L q w):=by
 have a:=h.c0;have b:=jI h;obtain⟨n,d⟩:=aB L.length;have e:=jI d;have k:n<=1000000:=by rw[d];exact h.le.2
 rw[<-d]at a;have l:∀W:jW,(Instr.makeMap 107 (some (jV (n:Int)))).run Tryz.prog W= .ok (.map (some W.heap.size)) (W.alloc (.map #[] 0)):=λW=>by simp[Instr.makeMap,go_sem]
 have o:=eF (A:= .map #[] 0) a;generalize r:ST L q w=G;have s:=jI r;have t:Hid (SY L q w (w.alloc (.map #[] 0)) 0):=⟨ip _ _,λ_=>none,0,Mp.made 9 w,λnm _ j F u=>by omega,λnm v x=>(by cases x),aD _,by simp⟩;clear r h d;go_enter Tryz.func45,Tryz.ntmps45
 go_wp2_with fail
 obtain⟨z,B⟩:=aB (w.alloc (.map #[] 0));rw[<-B]at t⊢;clear B o a
 go_loopw [16] (λv wr=>∃i:Nat,i<=n/\v=jV i/\Hid (SY L q w wr i)) (λv _=>n-(intOf v).toNat)
 case atStart=>exact⟨0,aQ _,rfl,t⟩
 case round=>
  obtain⟨i,C,rfl,D⟩:=hrel;by_cases E:i<n
  ·obtain⟨F,H⟩:∃F,L[i]?=some F:=⟨L[i]'(by rw[<-e.out];exact E),aI _⟩;obtain⟨g,p,rfl,I⟩:∃g p,q=some (jB g p)/\∀j F,L[j]?=some F->eX w g (p+j*4) F:=by
    rcases b.fn with h|h
    ·rw[h]at H;simp at H
    ·exact h
   have J:=I i F H;have K:wr.cell? (jA cb)=some (jL (some (jB g p)) n c):=by rw[D.bel.cell (p:=(jA cb)) (fE b.c0),e.out];exact b.c0
   have M:wr.cell? (jB g (p+i*4))=some (jT ⟨F.name.toArray⟩):=by rw[D.bel.cell (p:=(jB g (p+i*4))) (fE J.c0)];exact J.c0
   obtain⟨N,O,P,Q⟩:=Oj D H (aJ wr.heap.size wr).drew J.i2.1 (by omega);have S:N.cell? (jA cb)=some (jL (some (jB g p)) n c):=by rw[P.bel.cell (p:=(jA cb)) (fE b.c0),e.out];exact b.c0
   have T:N.cell? (jB g (p+i*4))=some (jT ⟨F.name.toArray⟩):=by rw[P.bel.cell (p:=(jB g (p+i*4))) (fE J.c0)];exact J.c0
   have U:=jI P;obtain⟨y,V⟩:∃y:ByteArray,y=⟨F.name.toArray⟩:=⟨_,rfl⟩;rw[<-V]at M T O;have Y:(i:Int)<(n:Int):=by omega
   have Z:n<=c:=by have:=b.le.1;have:=e.out;omega
   clear H I J P Q V
   go_wp2_with fail
   go_region_held3(λw'=>w'.cell? (jA cb)=some (jL (some (jB g p)) n c)/\w'.cell? (jB g (p+i*4))=some (jT y))
    (first|(go_keep;done)|((try dsimp only);refine⟨?_,?_⟩<;>first|(go_keep;done)|(go_simp;done)|(simp[*];done)|assumption))
    (fail)
   go_wp2;exact⟨⟨i+1,by omega,by go_num,U⟩,by simp[intOf];omega⟩
  ·have k:i=n:=by omega
   subst k;have l:Hid (G (jR (.map (some w.heap.size))) wr):=by
    show G _ _;rw[<-s.out];obtain⟨f,m,u,d⟩:=D.at';rw[e.out]at d;exact⟨f,m,rfl,D.bel,u,d⟩
   go_wp2;exact l
end Go.Proofs.YtnfhpdbbfejioaaGreatDoor.Mid
namespace Go.Proofs.YtnfhpdbbfejioaaGreatDoor
open Go Go.RowKit
variable {s:aa}{n:Nat}
def Gm{α:Type}(x y:ae α):Prop:=∀s,(∃o,x s= .error (99,o))\/y s=x s
theorem jn{α:Type}(x:ae α):Gm x x:=λ_=> .inr rfl
theorem yR{α:Type}(y:ae α):Gm (ax 99) y:=λs=> .inl ⟨s.out,rfl⟩
theorem ol{α b:Type}{x y:ae α}{f h:α->ae b}(c:Gm x y)(d:∀a,Gm (f a) (h a)):Gm (au x f) (au y h):=λs=>by
 unfold au;rcases c s with⟨o,e⟩|e
 ·rw[e];exact .inl ⟨o,rfl⟩
 ·rw[e];cases g:x s with
  |error z=>exact .inr rfl
  |ok z=>exact d z.1 z.2
theorem yS{α:Type}{c:Prop}[Decidable c]{x y a b:ae α}(d:Gm x a)(e:Gm y b):Gm (if c then x else y) (if c then a else b):=by
 split
 ·exact d
 ·exact e
theorem rp(fs:By->Option eR):∀(g:Nat),(∀d o t,Gm (eM fs g d o t) (eM fs (g+1) d o t))/\(∀d o t,Gm (nA fs g d o t) (nA fs (g+1) d o t))/\(∀d o t,Gm (iq fs g d o t) (iq fs (g+1) d o t))/\(∀d o t,Gm (oh fs g d o t) (oh fs (g+1) d o t))/\(∀d o v t,Gm (rM fs g d o v t) (rM fs (g+1) d o v t))
 |0=>⟨λ_ _ _=>by rw[M_];exact yR _,λ_ _ _=>by rw[Na];exact yR _,λ_ _ _=>by rw[Nb];exact yR _,λ_ _ _=>by rw[Nc];exact yR _,λ_ _ _ _=>by rw[Nd];exact yR _⟩
 |g+1=>by
  obtain⟨a,c,b,f,e⟩:=rp fs g;refine⟨λd o t=>?_,λd o t=>?_,λd o t=>?_,λd o t=>?_,λd o v t=>?_⟩
  ·rw[ij,ij];split
   ·rename_i nm _ _ _ _;cases h:fs nm<;>simp only[h]
    all_goals repeat' first|exact a _ _ _|exact c _ _ _|exact b _ _ _|exact jn _|refine yS ?_ ?_|(refine ol ?_ λ_=>?_)
   ·exact jn _
  ·rw[qz,qz];split
   ·exact ol (a _ _ _) λ_=>ol (c _ _ _) λ_=>jn _
   ·exact jn _
  ·rw[qA,qA];split
   ·exact ol (jn _) λ_=>ol (f _ _ _) λ_=>yS (jn _) (b _ _ _)
   ·exact jn _
  ·rw[jZ,jZ];split
   ·repeat' first|exact a _ _ _|exact e _ _ _ _|exact b _ _ _|exact jn _|refine yS ?_ ?_|(refine ol ?_ λ_=>?_)
   ·exact jn _
  ·rw[uX,uX];exact ol (a _ _ _) λ_=>yS (jn _) (ol (b _ _ _) λ_=>yS (jn _) (ol (jn _) λ_=>e _ _ _ _))
def Fl{α:Type}(x:ae α):Prop:=∀s a b,x s= .ok (a,b)->b.fuel<=s.fuel
theorem gZ{α:Type}(a:α):Fl (ar a):=λs b c h=>by
 injection h with h;injection h with _ h;rw[h];exact aD _
theorem jy{α:Type}(w:Int):Fl (ax (α:=α) w):=λs b a h=>(by cases h)
theorem i7{α c:Type}{x:ae α}{f:α->ae c}(d:Fl x)(g:∀a,Fl (f a)):Fl (au x f):=λs b i h=>by
 unfold au at h;cases e:x s with
 |error z=>rw[e]at h;cases h
 |ok z=>
  rw[e]at h;exact aP (g z.1 z.2 b i h) (d s z.1 z.2 e)
theorem u_{α:Type}{c:Prop}[Decidable c]{x y:ae α}(a:Fl x)(b:Fl y):Fl (if c then x else y):=by
 split
 ·exact a
 ·exact b
theorem uf{α:Type}{c:aa->Prop}[DecidablePred c]{w:Int}{f:aa->α}{u:aa->aa}(a:∀s,(u s).fuel<=s.fuel):Fl (λs=>if c s then .error (w,s.out) else .ok (f s,u s):ae α):=λs b d h=>by
 dsimp only at h;split at h
 ·cases h
 ·injection h with h;injection h with _ h;rw[<-h];exact a s
theorem qM:Fl ay:=uf (u:=λs=>{s with fuel:=s.fuel-1}) (λs=>cM _ _)
theorem pC(n:Int):Fl (af n):=uf (u:=λs=>{s with out:=s.out++[n]}) (λs=>aD _)
theorem pD:Fl ah:=λs b a h=>by
 injection h with h;injection h with _ h;rw[<-h];exact aD _
theorem vq(n:Int):Fl (ai n):=uf (c:=λ_=>n<0\/40<n) (f:=λs=>((0:Int),some s.hp.length)) (u:=λs=>{s with hp:=s.hp++[List.replicate n.toNat 0]}) (λs=>aD _)
theorem sr(q:Option Nat):Fl (ak q):=λs b a h=>by
 injection h with h;injection h with _ h;rw[<-h];exact aD _
theorem pE(q:Option Nat)(i:Int):Fl (ap q i):=uf (c:=λs=>i<0\/((aj s q).length:Int)<=i) (u:=λs=>s) (λs=>aD _)
theorem su(q:Option Nat)(i n:Int):Fl (aq q i n):=uf (c:=λs=>i<0\/((aj s q).length:Int)<=i) (f:=λ_=>()) (u:=λs=>{s with hp:=s.hp.modify (q.getD 0) (λl=>l.set i.toNat n)}) (λs=>aD _)
theorem pF(c:By)(a b:Int):Fl (aw c a b):=by
 unfold aw
 repeat' first|exact gZ _|exact jy _|refine u_ ?_ ?_
theorem jo(fs:By->Option eR):∀(g:Nat),(∀d o t,Fl (eM fs g d o t))/\(∀d o t,Fl (nA fs g d o t))/\(∀d o t,Fl (iq fs g d o t))/\(∀d o t,Fl (oh fs g d o t))/\(∀d o v t,Fl (rM fs g d o v t))
 |0=>⟨λ_ _ _=>by rw[M_];exact jy _,λ_ _ _=>by rw[Na];exact jy _,λ_ _ _=>by rw[Nb];exact jy _,λ_ _ _=>by rw[Nc];exact jy _,λ_ _ _ _=>by rw[Nd];exact jy _⟩
 |g+1=>by
  obtain⟨a,c,b,f,e⟩:=jo fs g;refine⟨λd o t=>?_,λd o t=>?_,λd o t=>?_,λd o t=>?_,λd o v t=>?_⟩
  ·rw[ij];split
   ·rename_i nm _ _ _ _;cases h:fs nm<;>simp only[h]
    all_goals repeat' first|exact gZ _|exact jy _|exact a _ _ _|exact c _ _ _|exact b _ _ _|exact vq _|exact sr _|exact pE _ _|exact pD|exact pF _ _ _|refine u_ ?_ ?_|(refine i7 ?_ λ_=>?_)
   ·exact jy _
  ·rw[qz];split
   ·exact i7 (a _ _ _) λ_=>i7 (c _ _ _) λ_=>gZ _
   ·exact gZ _
  ·rw[qA];split
   ·exact i7 qM λ_=>i7 (f _ _ _) λ_=>u_ (gZ _) (b _ _ _)
   ·exact gZ _
  ·rw[jZ];split
   ·repeat' first|exact gZ _|exact jy _|exact a _ _ _|exact e _ _ _ _|exact b _ _ _|exact su _ _ _|exact pC _|refine u_ ?_ ?_|(refine i7 ?_ λ_=>?_)
   ·exact jy _
  ·rw[uX];exact i7 (a _ _ _) λ_=>u_ (gZ _) (i7 (b _ _ _) λ_=>u_ (gZ _) (i7 qM λ_=>e _ _ _ _))
theorem Iu{α:Type}{x y z:ae α}(h1:Gm x y)(h2:Gm y z):Gm x z:=λs=>by
 rcases h1 s with h|h
 ·exact .inl h
 ·rcases h2 s with⟨o,e⟩|e
  ·exact .inl ⟨o,by rw[<-h,e]⟩
  ·exact .inr (by rw[e,h])
theorem Nk{α b:Type}{x:ae α}{f:α->ae b}{s1:aa}{a:α}(h:x s= .ok (a,s1)):au x f s=f a s1:=by unfold au;rw[h]
theorem Nl{α a:Type}{x:ae α}{f:α->ae a}{e:Int×List Int}(h:x s= .error e):au x f s= .error e:=by unfold au;rw[h]
def Up{α:Type}(x:Nat->ae α):Prop:=∀g,Gm (x g) (x (g+1))
theorem Up.le{α:Type}{x:Nat->ae α}(h:Up x)(g:Nat):∀k,Gm (x g) (x (g+k))
 |0=>jn _
 |k+1=>Iu (h.le g k) (h (g+k))
def Tm{α:Type}(x:Nat->ae α)(s:aa):Prop:=∃g,∀o,x g s≠.error (99,o)
def Qm{α:Type}(n:Nat)(x:Nat->ae α):Prop:=Up x/\(∀g,Fl (x g))/\∀s,s.fuel<=n->Tm x s
theorem za{α b:Type}{x:Nat->ae α}{f:Nat->α->ae b}(c:Qm n x)(d:∀a,Qm n (λg=>f g a)):Qm n (λg=>au (x g) (f g)):=by
 refine⟨λg=>ol (c.1 g) λa=>(d a).1 g,λg=>i7 (c.2.1 g) λa=>(d a).2.1 g,λs i=>?_⟩;obtain⟨j,h1⟩:=c.2.2 s i;cases e:x j s with
 |error z=>
  refine⟨j,λo k=>h1 o ?_⟩;have l:au (x j) (f j) s= .error (99,o):=k;rw[Nl e]at l;injection l with l;rw[e,l]
 |ok z=>
  obtain⟨a,s1⟩:=z;obtain⟨m,h2⟩:=(d a).2.2 s1 (aP (c.2.1 j s a s1 e) i);refine⟨j+m,λo k=>?_⟩;have p:x (j+m) s= .ok (a,s1):=by
   rcases c.1.le j m s with⟨q,h⟩|h
   ·exact absurd h (h1 q)
   ·rw[h,e]
  have r:f (j+m) a s1=f m a s1:=by
   rcases(d a).1.le m j s1 with⟨q,h⟩|h
   ·exact absurd h (h2 q)
   ·rw[Nat.add_comm];exact h
  have l:au (x (j+m)) (f (j+m)) s= .error (99,o):=k;rw[Nk p,r]at l;exact h2 o l
theorem Iw{α:Type}{c:Prop}[Decidable c]{x y:Nat->ae α}(a:c->Qm n x)(b:¬c->Qm n y):Qm n (λg=>if c then x g else y g):=by
 by_cases h:c
 ·simp only[if_pos h];exact a h
 ·simp only[if_neg h];exact b h
def N9{α:Type}(y:ae α):Prop:=∀s o,y s≠.error (99,o)
theorem q_c{α:Type}{y:ae α}(h:N9 y)(a:Fl y):Qm n (λ_=>y):=⟨λ_=>jn _,λ_=>a,λs _=>⟨0,h s⟩⟩
theorem qI{α:Type}(a:α):N9 (ar a):=λs o h=>(by cases h)
theorem Cw{α:Type}(w:Int)(a:w≠99):N9 (ax (α:=α) w):=λs o h=>by
 injection h with h;injection h with h _;exact a h
theorem ug{α:Type}{c:aa->Prop}[DecidablePred c]{w:Int}(a:w≠99){f:aa->α}{u:aa->aa}:N9 (λs=>if c s then .error (w,s.out) else .ok (f s,u s):ae α):=λs o h=>by
 dsimp only at h;split at h
 ·injection h with h;injection h with h _;exact a h
 ·cases h
theorem SH{α:Type}{c:Prop}[Decidable c]{x y:ae α}(a:N9 x)(b:N9 y):N9 (if c then x else y):=by
 split
 ·exact a
 ·exact b
theorem Qq:N9 ay:=ug (by decide)
theorem LO(n:Int):N9 (af n):=ug (by decide)
theorem LP:N9 ah:=λs o h=>(by cases h)
theorem Qr(n:Int):N9 (ai n):=ug (c:=λ_=>n<0\/40<n) (f:=λs=>((0:Int),some s.hp.length)) (by decide)
theorem Qt(q:Option Nat):N9 (ak q):=λs o h=>(by cases h)
theorem LQ(q:Option Nat)(i:Int):N9 (ap q i):=ug (c:=λs=>i<0\/((aj s q).length:Int)<=i) (by decide)
theorem Qu(q:Option Nat)(i n:Int):N9 (aq q i n):=ug (c:=λs=>i<0\/((aj s q).length:Int)<=i) (f:=λ_=>()) (by decide)
theorem LR(c:By)(a b:Int):N9 (aw c a b):=by
 unfold aw
 repeat' first|exact qI _|exact Cw _ (by decide)|refine SH ?_ ?_
theorem SI{α:Type}{f:Nat->ae α}(a:Up f)(b:∀g,Fl (f g))(h:∀c,c<n->Qm c f):Qm n (λg=>au ay λ_=>f g):=by
 refine⟨λg=>ol (jn _) λ_=>a g,λg=>i7 qM λ_=>b g,λs d=>?_⟩;by_cases i:s.fuel=0
 ·refine⟨0,λo j=>?_⟩;have e:ay s= .error (6,s.out):=if_pos i;have k:au ay (λ_=>f 0) s= .error (99,o):=j;rw[Nl e]at k;injection k with k;injection k with k _;exact absurd k (by decide)
 ·obtain⟨g,l⟩:=(h (s.fuel-1) (by omega)).2.2 {s with fuel:=s.fuel-1} (aD _);refine⟨g,λo j=>l o ?_⟩;have e:ay s= .ok ((),{s with fuel:=s.fuel-1}):=if_neg i;have k:au ay (λ_=>f g) s= .error (99,o):=j;rw[Nk e]at k;exact k
theorem shE(t:Tr):(∃b c e a f n nm i l r xs,t= .agg [.lit (.int b c),.lit (.int e a),.lit (.int f n),.lit (.string nm),.lit (.string i),l,r,xs])\/(∀fs g d o,eM fs (g+1) d o t=ax 97):=by
 by_cases h:∃b c e a f n nm i l r xs,t= .agg [.lit (.int b c),.lit (.int e a),.lit (.int f n),.lit (.string nm),.lit (.string i),l,r,xs]
 ·exact .inl h
 ·refine .inr λfs g d o=>?_;rw[ij];split
  ·exact absurd ⟨_,_,_,_,_,_,_,_,_,_,_,rfl⟩ h
  ·rfl
theorem shL(t:Tr):(∃x xs,t= .slice [x] [xs])\/((∀fs g d o,nA fs (g+1) d o t=ar [])/\(∀fs g d o,iq fs (g+1) d o t=ar (none,o))):=by
 by_cases h:∃x xs,t= .slice [x] [xs]
 ·exact .inl h
 ·refine .inr ⟨λfs g d o=>?_,λfs g d o=>?_⟩
  ·rw[qz];split
   ·exact absurd ⟨_,_,rfl⟩ h
   ·rfl
  ·rw[qA];split
   ·exact absurd ⟨_,_,rfl⟩ h
   ·rfl
theorem shS(t:Tr):(∃b c e a nm f v i el,t= .agg [.lit (.int b c),.lit (.int e a),.lit (.string nm),f,v,i,el])\/(∀fs g d o,oh fs (g+1) d o t=ax 97):=by
 by_cases h:∃b c e a nm f v i el,t= .agg [.lit (.int b c),.lit (.int e a),.lit (.string nm),f,v,i,el]
 ·exact .inl h
 ·refine .inr λfs g d o=>?_;rw[jZ];split
  ·exact absurd ⟨_,_,_,_,_,_,_,_,_,rfl⟩ h
  ·rfl
theorem qJ{α:Type}{x:Nat->ae α}(u:Up x)(f:∀g,Fl (x g))(h:Qm n (λg=>x (g+1))):Qm n x:=⟨u,f,λs a=>by
 obtain⟨g,b⟩:=h.2.2 s a;exact⟨g+1,b⟩⟩
def LS(fs:By->Option eR)(a n m:Nat):Prop:=
 (∀(d:Nat)(o:Own)(t:Tr),40-d<=a->SizeOf.sizeOf t<=m->Qm n (λg=>eM fs g d o t))/\(∀(d:Nat)(o:Own)(t:Tr),40-d<=a->SizeOf.sizeOf t<=m->Qm n (λg=>nA fs g d o t))/\(∀(d:Nat)(o:Own)(t:Tr),40-d<=a->SizeOf.sizeOf t<=m->Qm n (λg=>iq fs g d o t))/\(∀(d:Nat)(o:Own)(t:Tr),40-d<=a->SizeOf.sizeOf t<=m->Qm n (λg=>oh fs g d o t))/\(∀(d:Nat)(o:Own)(v t:Tr),40-d<=a->SizeOf.sizeOf v+SizeOf.sizeOf t<=m->Qm n (λg=>rM fs g d o v t))
theorem rq{p:Nat->Prop}(h:∀n,(∀m,m<n->p m)->p n)(n:Nat):p n:=by
 have:∀k m,m<k->p m:=λk=>by
  induction k with
  |zero=>intro m a;omega
  |succ k b=>intro m a;exact h m (λq c=>b q (by omega))
 exact this (n+1) n (by omega)
theorem SJ(fs:By->Option eR)(e n m:Nat):LS fs e n m:=by
 revert n m
 refine rq (p:=λe=>∀n m,LS fs e n m) (λe f=>?_) e;intro n;refine rq (p:=λn=>∀m,LS fs e n m) (λn i=>?_) n;intro m;refine rq (p:=λm=>LS fs e n m) (λm j=>?_) m;have k:∀d o t,Up (λg=>eM fs g d o t):=λd o t g=>(rp fs g).1 d o t;have q:∀d o t,Up (λg=>nA fs g d o t):=λd o t g=>(rp fs g).2.1 d o t;have s:∀d o t,Up (λg=>iq fs g d o t):=λd o t g=>(rp fs g).2.2.1 d o t;have u:∀d o t,Up (λg=>oh fs g d o t):=λd o t g=>(rp fs g).2.2.2.1 d o t;have w:∀d o v t,Up (λg=>rM fs g d o v t):=λd o v t g=>(rp fs g).2.2.2.2 d o v t;have y:∀d o t g,Fl (eM fs g d o t):=λd o t g=>(jo fs g).1 d o t;have A:∀d o t g,Fl (nA fs g d o t):=λd o t g=>(jo fs g).2.1 d o t;have B:∀d o t g,Fl (iq fs g d o t):=λd o t g=>(jo fs g).2.2.1 d o t;have C:∀d o t g,Fl (oh fs g d o t):=λd o t g=>(jo fs g).2.2.2.1 d o t;have D:∀d o v t g,Fl (rM fs g d o v t):=λd o v t g=>(jo fs g).2.2.2.2 d o v t;refine⟨λd o t E F=>?_,λd o t E F=>?_,λd o t E F=>?_,λd o t E F=>?_,λd o v t E F=>?_⟩
 ·refine qJ (k d o t) (y d o t) ?_;rcases shE t with⟨G,c,H,a,I,z,nm,J,l,r,xs,rfl⟩|h
  ·have K:SizeOf.sizeOf l<m:=aO (by simp;omega) F;have L:SizeOf.sizeOf r<m:=aO (by simp;omega) F;have M:SizeOf.sizeOf xs<m:=aO (by simp;omega) F;have N:=(j _ K).1 d o l E (aD _);have O:=(j _ L).1 d o r E (aD _);have P:=(j _ M).2.1 d o xs E (aD _);have Q:∀o b,¬40<=d->Qm n (λg=>iq fs g (d+1) o b):=λo b h=>(f (40-(d+1)) (by omega) n (SizeOf.sizeOf b)).2.2.1 (d+1) o b (aD _) (aD _);simp only[ij];cases S:fs nm<;>simp only
   all_goals repeat' first|exact N|exact O|exact P|exact q_c (qI _) (gZ _)|exact q_c (Cw _ (by decide)) (jy _)|exact q_c (Qr _) (vq _)|exact q_c (Qt _) (sr _)|exact q_c (LQ _ _) (pE _ _)|exact q_c LP pD|exact q_c (LR _ _ _) (pF _ _ _)|(refine Iw (λ_=>?_) (λh=>?_))|exact Q _ _ h|(refine za ?_ λ_=>?_)
  ·simp only[h];exact q_c (Cw _ (by decide)) (jy _)
 ·refine qJ (q d o t) (A d o t) ?_;rcases shL t with⟨x,xs,rfl⟩|⟨h,_⟩
  ·have M:SizeOf.sizeOf x<m:=aO (by simp;omega) F;have T:SizeOf.sizeOf xs<m:=aO (by simp;omega) F;simp only[qz];exact za ((j _ M).1 d o x E (aD _)) λ_=>za ((j _ T).2.1 d o xs E (aD _)) λ_=>q_c (qI _) (gZ _)
  ·simp only[h];exact q_c (qI _) (gZ _)
 ·refine qJ (s d o t) (B d o t) ?_;rcases shL t with⟨x,xs,rfl⟩|⟨_,h⟩
  ·have M:SizeOf.sizeOf x<m:=aO (by simp;omega) F;have T:SizeOf.sizeOf xs<m:=aO (by simp;omega) F;simp only[qA];refine za (q_c Qq qM) λ_=>za ((j _ M).2.2.2.1 d o x E (aD _)) λr=>?_;exact Iw (λ_=>q_c (qI _) (gZ _)) (λ_=>(j _ T).2.2.1 d r.2 xs E (aD _))
  ·simp only[h];exact q_c (qI _) (gZ _)
 ·refine qJ (u d o t) (C d o t) ?_;rcases shS t with⟨G,c,H,a,nm,U,v,V,el,rfl⟩|h
  ·have W:SizeOf.sizeOf U<m:=aO (by simp;omega) F;have Y:SizeOf.sizeOf v<m:=aO (by simp;omega) F;have Z:SizeOf.sizeOf V<m:=aO (by simp;omega) F;have e:SizeOf.sizeOf el<m:=aO (by simp;omega) F;have k:SizeOf.sizeOf v+SizeOf.sizeOf V<m:=aO (by simp;omega) F;have y:=(j _ W).1 d o U E (aD _);have I:=(j _ Y).1 d o v E (aD _);have J:=(j _ Z).2.2.1 d o V E (aD _);have K:=(j _ e).2.2.1 d o el E (aD _);have L:=(j _ k).2.2.2.2 d o v V E (aD _);simp only[jZ]
   repeat' first|exact y|exact I|exact J|exact K|exact L|exact q_c (qI _) (gZ _)|exact q_c (Qu _ _ _) (su _ _ _)|exact q_c (LO _) (pC _)|(refine Iw (λ_=>?_) (λh=>?_))|(refine za ?_ λ_=>?_)
  ·simp only[h];exact q_c (Cw _ (by decide)) (jy _)
 ·refine qJ (w d o v t) (D d o v t) ?_;have f:0<SizeOf.sizeOf t:=by cases t<;>simp<;>omega
  have q:0<SizeOf.sizeOf v:=by cases v<;>simp<;>omega
  simp only[uX];refine za ((j (SizeOf.sizeOf v) (by omega)).1 d o v E (aD _)) λx=>Iw (λ_=>q_c (qI _) (gZ _)) (λ_=>?_);refine za ((j (SizeOf.sizeOf t) (by omega)).2.2.1 d o t E (aD _)) λr=>Iw (λ_=>q_c (qI _) (gZ _)) (λ_=>?_);exact SI (w d r.2 v t) (D d r.2 v t) λA N=>(i A N m).2.2.2.2 d r.2 v t E F
theorem Ix(L:List eR)(inp:List Int)(a:Nat):∃g,∀k,(Aq (g+k) L inp a).1≠99/\Aq (g+k) L inp a=Aq g L inp a:=by
 have q:=(SJ (λnm=>L.find? (λF=>F.nm==nm)) 40 a _).1 0 [] (nd 5 0 0 [109,97,105,110] [] .nil .nil ce) (aD _) (aD _);obtain⟨g,c⟩:=q.2.2 ⟨a,inp,[],[]⟩ (aD _);refine⟨g,λk=>?_⟩;have e:eM (λnm=>L.find? (λF=>F.nm==nm)) (g+k) 0 [] (nd 5 0 0 [109,97,105,110] [] .nil .nil ce) ⟨a,inp,[],[]⟩=eM (λnm=>L.find? (λF=>F.nm==nm)) g 0 [] (nd 5 0 0 [109,97,105,110] [] .nil .nil ce) ⟨a,inp,[],[]⟩:=by
  rcases q.1.le g k ⟨a,inp,[],[]⟩ with⟨o,h⟩|h
  ·exact absurd h (c o)
  ·exact h
 refine⟨?_,by unfold Aq;rw[e]⟩;unfold Aq;rw[e];split
 ·rename_i w o h;intro d;have b:=d;subst b;exact c o h
 ·show(1:Int)≠99;decide
end Go.Proofs.YtnfhpdbbfejioaaGreatDoor
namespace Go.Proofs.YtnfhpdbbfejioaaGreatDoor.Mid
open Go Go.RowKit
variable {F G:Mf}{l:List Int}{i:Nat}{x p k:Int}{a:By}
def ID(t:Int):Bool:=t==1||t==2
def fe(F:Mf):Bool:=decide (0<=F.params)&&(decide (F.params<=F.types.length)&&(decide (F.types.length<=3000)&&F.types.all ID))
def BF(b:Bool)(w:jW)(e:Ending)(w':jW):Prop:=e=jR (.bool b)/\az w w'
theorem TR(h:F.params<0):fe F=false:=by unfold fe;rw[decide_eq_false (by omega)];rfl
theorem TT(h:(F.types.length:Int)<F.params):fe F=false:=by unfold fe;rw[decide_eq_false (p:=F.params<=F.types.length) (by omega)];simp
theorem TU(h:3000<F.types.length):fe F=false:=by unfold fe;rw[decide_eq_false (p:=F.types.length<=3000) (by omega)];simp
theorem TV(h1:¬F.params<0)(h2:¬(F.types.length:Int)<F.params)(a:¬3000<F.types.length):fe F=F.types.all ID:=by
 unfold fe;rw[decide_eq_true (p:=0<=F.params) (by omega),decide_eq_true (p:=F.params<=F.types.length) (by omega),decide_eq_true (p:=F.types.length<=3000) (by omega)];simp
theorem Ku(h:l[i]?=some x)(a:ID x=false):l.all ID=false:=by
 rw[List.all_eq_false];exact⟨x,aM h,by simp[a]⟩
theorem pj(w:jW)(fb a:Nat)(F:Mf)(h:eX w fb a F):aA 46 #[jQ (some (jB fb a))] w (BF (fe F) w):=by
 have b:=h.c1;obtain⟨v,d,q,c,rfl,f,k,l⟩:=h.c2;have m:w.drew.cell? (jB fb (a+1))=some (jV F.params):=b;have r:w.drew.cell? (jB fb (a+2))=some (jL q F.types.length c):=d;obtain⟨pa,s⟩:∃pa,F.params=pa:=⟨_,rfl⟩;obtain⟨n,t⟩:∃n,F.types.length=n:=⟨_,rfl⟩;rw[s]at b m;rw[t]at d r f;have u:Hid (F.params=pa/\F.types.length=n):=⟨s,t⟩;have y:Hid (F.types=[]\/∃g o,q=some (jB g o)/\∀j x,F.types[j]?=some x->w.cell? (jB g (o+j))=some (jV x)):=l;generalize z:BF (fe F) w=G;have A:Hid (BF (fe F) w=G):=z;clear z l k h s t;by_cases h1:pa<0
 ·have B:Hid (G (jR (.bool false)) w.drew):=by show G _ _;rw[<-A.out,TR (by rw[u.out.1];exact h1)];exact⟨rfl,(aJ _ _).drew⟩
  have C:decide (pa<0)=true:=decide_eq_true h1;clear h1;go_enter Tryz.func46,Tryz.ntmps46
  go_wp2_with fail
  go_region;go_wp2;exact B.out
 by_cases h2:(n:Int)<pa
 ·have B:Hid (G (jR (.bool false)) w.drew):=by show G _ _;rw[<-A.out,TT (by rw[u.out.1,u.out.2];exact h2)];exact⟨rfl,(aJ _ _).drew⟩
  have C:decide (pa<0)=false:=decide_eq_false h1;have D:decide ((n:Int)<pa)=true:=decide_eq_true h2;clear h1 h2;go_enter Tryz.func46,Tryz.ntmps46
  go_wp2_with fail
  go_region;go_wp2;exact B.out
 by_cases E:3000<n
 ·have B:Hid (G (jR (.bool false)) w.drew):=by show G _ _;rw[<-A.out,TU (by rw[u.out.2];exact E)];exact⟨rfl,(aJ _ _).drew⟩
  have C:decide (pa<0)=false:=decide_eq_false h1;have D:decide ((n:Int)<pa)=false:=decide_eq_false h2;have H:decide ((3000:Int)<n)=true:=decide_eq_true (by omega);clear h1 h2 E;go_enter Tryz.func46,Tryz.ntmps46
  go_wp2_with fail
  go_region;go_wp2;exact B.out
 have I:Hid (fe F=F.types.all ID):=TV (by rw[u.out.1];exact h1) (by rw[u.out.1,u.out.2];exact h2) (by rw[u.out.2];exact E);have C:decide (pa<0)=false:=decide_eq_false h1;have D:decide ((n:Int)<pa)=false:=decide_eq_false h2;have H:decide ((3000:Int)<n)=false:=decide_eq_false (by omega);clear h1 h2 E;go_enter Tryz.func46,Tryz.ntmps46
 go_wp2_with fail
 go_region
 go_wp2_with fail
 go_loopw [35] (λv wr=>∃i:Nat,i<=n/\v=jV i/\wr=w.drew/\Hid ((F.types.take i).all ID=true)) (λv _=>n-(intOf v).toNat)
 case atStart=>exact⟨0,aQ _,rfl,rfl,(by show _=_;simp)⟩
 case round=>
  obtain⟨i,J,rfl,rfl,K⟩:=hrel;by_cases L:i<n
  ·obtain⟨x,M⟩:∃x,F.types[i]?=some x:=⟨F.types[i]'(by rw[u.out.2];exact L),aI _⟩;obtain⟨g,p,rfl,N⟩:∃g o,q=some (jB g o)/\∀j x,F.types[j]?=some x->w.cell? (jB g (o+j))=some (jV x):=by
    rcases y.out with h|h
    ·rw[h]at M;simp at M
    ·exact h
   have O:w.drew.cell? (jB g (p+i))=some (jV x):=N i x M;have P:(i:Int)<(n:Int):=by omega
   have Q:Hid (F.types[i]?=some x):=M;clear N M;cases S:ID x with
   |true=>
    have T:Hid ((F.types.take (i+1)).all ID=true):=by show _=_;rw[gI Q.out,cZ,K.out];simp[S]
    have U:x=1\/x=2:=by simpa[ID] using S
    clear S;rcases U with rfl|rfl
    ·go_wp2;exact⟨⟨i+1,by omega,by go_num,by trivial,T⟩,by simp[intOf];omega⟩
    ·go_wp2;exact⟨⟨i+1,by omega,by go_num,by trivial,T⟩,by simp[intOf];omega⟩
   |false=>
    have B:Hid (G (jR (.bool false)) w.drew):=by show G _ _;rw[<-A.out,I.out,Ku Q.out S];exact⟨rfl,(aJ _ _).drew⟩
    have U:(x==1)=false/\(x==2)=false:=by simpa[ID] using S
    obtain⟨V,W⟩:=U;have Y:(x !=1)=true:=by simp[bne,V]
    have Z:(x !=2)=true:=by simp[bne,W]
    clear S;go_wp2;exact B.out
  ·have a:i=n:=by omega
   subst a;have B:Hid (G (jR (.bool true)) w.drew):=by
    show G _ _;have e:F.types.take i=F.types:=by rw[<-u.out.2,cx]
    have:=K.out;rw[e]at this;rw[<-A.out,I.out,this];exact⟨rfl,(aJ _ _).drew⟩
   go_wp2;exact B.out
def ng(F:Mf)(p k:Int):Bool:=decide (0<=p/\p<F.types.length)&&(F.types.getD p.toNat 0==k)
def jD(F:Mf)(p k:Int):Bool:=k==0||ng F p k
def Jp(b:Bool)(w:jW)(e:Ending)(w':jW):Prop:=e=jR (.bool b)/\w'=w
def wV(w:jW)(a:Nat)(F:Mf):Prop:=∃fb b,w.cell? (jA a)=some (jQ (some (jB fb b)))/\eX w fb b F
theorem Ta(h:p<0):ng F p k=false:=by unfold ng;rw[decide_eq_false (by omega)];rfl
theorem Tb(h:¬p<F.types.length):ng F p k=false:=by unfold ng;rw[decide_eq_false (by omega)];rfl
theorem Tc{p:Nat}(h:F.types[p]?=some x):ng F (p:Int) k=(x==k):=by
 have:=(aK.1 h).1;unfold ng;rw[decide_eq_true (by omega),Bool.true_and,aR,aU,h];rfl
theorem vx(w:jW)(a:Nat)(F:Mf)(p k:Int)(h:wV w a F):aA 112 #[jV p,jV k,ptr a] w (Jp (ng F p k) w):=by
 obtain⟨fb,b,d,e⟩:=h;obtain⟨v,f,q,c,rfl,l,m,r⟩:=e.c2;obtain⟨n,s⟩:∃n,F.types.length=n:=⟨_,rfl⟩;rw[s]at f l;have t:=jI s;generalize u:Jp (ng F p k) w=G;have y:=jI u;clear u e m s;by_cases h1:p<0
 ·have z:Hid (G (jR (.bool false)) w):=by show G _ _;rw[<-y.out,Ta h1];exact⟨rfl,rfl⟩
  have A:decide (0<=p)=false:=decide_eq_false (by omega);clear h1 r;go_enter Tryz.func112,Tryz.ntmps112;go_wp2;exact z
 ·obtain⟨i,rfl⟩:∃i:Nat,p=i:=⟨p.toNat,by omega⟩;by_cases h2:i<n
  ·obtain⟨x,B⟩:∃x,F.types[i]?=some x:=⟨F.types[i]'(by rw[t.out];exact h2),aI _⟩;obtain⟨g,o,rfl,C⟩:∃g o,q=some (jB g o)/\∀j x,F.types[j]?=some x->w.cell? (jB g (o+j))=some (jV x):=by
    rcases r with h|h
    ·rw[h]at B;simp at B
    ·exact h
   have D:=C i x B;have z:Hid (G (jR (.bool (x==k))) w):=by show G _ _;rw[<-y.out,Tc B];exact⟨rfl,rfl⟩
   have E:(i:Int)<(n:Int):=by omega
   clear C B r;go_enter Tryz.func112,Tryz.ntmps112;go_wp2;exact z
  ·have z:Hid (G (jR (.bool false)) w):=by show G _ _;rw[<-y.out,Tb (by rw[t.out];omega)];exact⟨rfl,rfl⟩
   have A:=decide_eq_false (by omega);have H:=decide_eq_false (by omega);clear h1 r;go_enter Tryz.func112,Tryz.ntmps112;go_wp2;exact z
abbrev Jq(a:Nat):jU:= .func (.func 112) #[] #[ptr a]
theorem Jr(w:jW)(a b:Nat)(F:Mf)(p k:Int)(h:wV w a F)(c:w.cell? (jA b)=some (Jq a)):aA 113 #[jV p,jV k,ptr b] w (Jp (jD F p k) w):=by
 generalize d:Jp (jD F p k) w=G;have f:=jI d;have g:Hid (∀W,W=w->aA 112 #[jV p,jV k,ptr a] W (Jp (ng F p k) W)):=λW e=>by subst e;exact vx W a F p k h
 clear h d;by_cases i:k=0
 ·subst i;have j:Hid (G (jR (.bool true)) w):=by show G _ _;rw[<-f.out];exact⟨rfl,rfl⟩
  go_enter Tryz.func113,Tryz.ntmps113;go_wp2;exact j
 ·have l:(k==0)=false:=by simpa using i
  have j:Hid (G (jR (.bool (ng F p k))) w):=by show G _ _;rw[<-f.out];unfold jD;rw[l];exact⟨rfl,rfl⟩
  clear i;go_enter Tryz.func113,Tryz.ntmps113
  go_wp2_with(go_at_call 112;refine(g _ rfl).mono ?_;rintro e w' ⟨rfl,rfl⟩)
  exact j
def eY:List By:=[[43],[45],[42],[47],[37],[61,61],[33,61],[60],[60,61],[62],[62,61]]
def nj(a:By):Bool:=eY.contains a
abbrev vM:Array Value:=#[jT ⟨#[43]⟩,jT ⟨#[45]⟩,jT ⟨#[42]⟩,jT ⟨#[47]⟩,jT ⟨#[37]⟩,jT ⟨#[61,61]⟩,jT ⟨#[33,61]⟩,jT ⟨#[60]⟩,jT ⟨#[60,61]⟩,jT ⟨#[62]⟩,jT ⟨#[62,61]⟩]
def zq(w:jW):Prop:=∀j,j<11->w.cell? (jB 4 j)=some (vM.getD j undef)
theorem Rj(i:Nat)(a:i<11)(w:jW):(Instr.index 264 (.agg vM) (jV (i:Int))).run Tryz.prog w= .ok (jT ⟨(eY.getD i []).toArray⟩) w:=by
 have h:i=0\/i=1\/i=2\/i=3\/i=4\/i=5\/i=6\/i=7\/i=8\/i=9\/i=10:=by omega
 rcases h with rfl|rfl|rfl|rfl|rfl|rfl|rfl|rfl|rfl|rfl|rfl<;>(show _=_;kernel_rfl)
theorem sQ(i:Nat)(a:i<11):eY[i]?=some (eY.getD i []):=by
 rw[aU];have:i<eY.length:=a;rw[aI this];rfl
theorem Fj(b:i<11)(h:eY.getD i []=a):nj a=true:=by
 unfold nj;rw[cz];rw[<-h];exact aM (sQ i b)
theorem Kf(h:∀i,i<11->eY.getD i []≠a):nj a=false:=by
 rw[cE];intro e;unfold nj at e;rw[cz]at e;obtain⟨i,b⟩:=a7 e;have c:i<11:=(aK.1 b).1;rw[sQ i c]at b;injection b with b;exact h i c b
theorem Fk(w:jW)(y:ByteArray)(h:zq w):aA 114 #[jT y] w (Jp (nj y.data.toList) w):=by
 have a:=h 0 (by omega);have b:=h 1 (by omega);have c:=h 2 (by omega);have d:=h 3 (by omega);have f:=h 4 (by omega);have g:=h 5 (by omega);have k:=h 6 (by omega);have l:=h 7 (by omega);have n:=h 8 (by omega);have o:=h 9 (by omega);have p:=h 10 (by omega);simp only[vM,dF,dv,bD,bL,Option.getD_some]at a b c d f g k l n o p;generalize q:Jp (nj y.data.toList) w=G;have r:=jI q;clear h q;go_enter Tryz.func114,Tryz.ntmps114
 go_wp2_with fail
 go_loopw [6] (λv wr=>∃i:Nat,i<=11/\v=jV i/\wr=w/\Hid (∀j,j<i->eY.getD j []≠y.data.toList)) (λv _=>11-(intOf v).toNat)
 case atStart=>exact⟨0,aQ _,rfl,rfl,λj s=>by omega⟩
 case round=>
  obtain⟨i,t,rfl,rfl,u⟩:=hrel;by_cases x:i<11
  ·have z:=Rj i x;obtain⟨m,A⟩:∃m:ByteArray,m=⟨(eY.getD i []).toArray⟩:=⟨_,rfl⟩;rw[<-A]at z;have B:Hid (eY.getD i []=m.data.toList):=by show _=_;rw[A]
   have C:(i:Int)<11:=by omega
   clear A;by_cases D:m=y
   ·have E:Hid (G (jR (.bool true)) wr):=by show G _ _;rw[<-r.out,Fj x (by rw[B.out,D])];exact⟨rfl,rfl⟩
    subst D;go_wp2;exact E
   ·have F:Hid (∀j,j<i+1->eY.getD j []≠y.data.toList):=λj s=>by
     by_cases e:j=i
     ·subst e;rw[B.out];intro H;exact D (by cases m;cases y;congr 1;exact cT H)
     ·exact u j (by omega)
    have I:(m.toList==y.toList)=false:=by
     rw[<-my,<-my,cE];intro e;have H:m.data.toList=y.data.toList:=by simpa using e
     exact D (by cases m;cases y;congr 1;exact cT H)
    go_wp2;exact⟨⟨i+1,by omega,by go_num,by trivial,F⟩,by simp[intOf];omega⟩
  ·have J:i=11:=by omega
   subst J;have E:Hid (G (jR (.bool false)) wr):=by show G _ _;rw[<-r.out,Kf u.out];exact⟨rfl,rfl⟩
   go_wp2;exact E
def S0(b:Bool)(w:jW)(e:Ending)(w':jW):Prop:=e=jR (.bool b)/\w'=w.drew
def kA(F:Mf)(G:Option Mf)(l:List Int):Bool:=match G with
 |none=>false
 |some G=>decide ((l.length:Int)=G.params)&&(l.zip G.types).all (λp=>ng F p.1 p.2)
theorem Oz(h:(l.length:Int)≠G.params):kA F (some G) l=false:=by unfold kA;simp[h]
theorem OA(h:(l.length:Int)=G.params):kA F (some G) l=(l.zip G.types).all (λp=>ng F p.1 p.2):=by unfold kA;simp[h]
theorem pS{α:Type}{f:α->Bool}{l:List α}{x:α}(h:l[i]?=some x)(a:f x=false):l.all f=false:=by
 rw[List.all_eq_false];exact⟨x,aM h,by simp[a]⟩
theorem Fo(w:World)(sb T H q Y:Nat)(s:Ms)(F G:Mf)(U:g8 w sb T s)(a:wV w H F)(I:eX w q Y G)(m:fe G=true):
  aA 115 #[.pointer (some ⟨sb,T,none⟩),.pointer (some ⟨q,Y,none⟩),Jq H] w (S0 (kA F (some G) s.args) w):=by
 obtain⟨va,Z,qa,ca,rfl,L,O,D⟩:=U.c9;have k1:=I.c1;obtain⟨vt,V,qt,ct,rfl,J,S,A⟩:=I.c2;have d9:=Z;have d1:=k1;have d2:=V;obtain⟨na,l⟩:∃na,s.args.length=na:=⟨_,rfl⟩;obtain⟨nt,d⟩:∃nt,G.types.length=nt:=⟨_,rfl⟩;obtain⟨pa,f⟩:∃pa,G.params=pa:=⟨_,rfl⟩;rw[l]at d9 L;rw[d]at d2 J;rw[f]at d1;have b:pa<=nt:=by
  unfold fe at m;simp at m;omega
 have c:Hid (s.args.length=na/\G.types.length=nt/\G.params=pa):=⟨l,d,f⟩;have K:=jI D;have Q:=jI A;have W:Hid (∀p k,aA 112 #[.int .i64 p,.int .i64 k,ptr H] w.drew (Jp (ng F p k) w.drew)):=λp k=>vx w.drew H F p k (by
  obtain⟨fb,fo,h1,h2⟩:=a;exact⟨fb,fo,h1,h2.below (aJ _ _).drew⟩)
 generalize y:S0 (kA F (some G) s.args) w=GG;have N:=jI y;clear U a I m D A O S l d f Z k1 V y;by_cases h1:(na:Int)=pa
 ·subst h1;have HF:Hid (kA F (some G) s.args=(s.args.zip G.types).all (λp=>ng F p.1 p.2)):=OA (by rw[c.out.1,c.out.2.2]);have hz:na<=nt:=by omega
  have HZ:Hid ((s.args.zip G.types).length=na):=by show _=_;rw[List.length_zip,c.out.1,c.out.2.1];omega
  clear b;go_enter Tryz.func115,Tryz.ntmps115
  go_wp2_with fail
  go_region
  go_wp2_with fail
  go_loopw [28] (λv wr=>∃i:Nat,i<=na/\v= .int .i64 i/\wr=w.drew/\Hid (((s.args.zip G.types).take i).all (λp=>ng F p.1 p.2)=true)) (λv _=>na-(intOf v).toNat)
  case atStart=>exact⟨0,aQ _,rfl,rfl,(by show _=_;simp)⟩
  case round=>
   obtain⟨i,A1,rfl,rfl,HA⟩:=hrel;by_cases B:i<na
   ·obtain⟨x,z⟩:∃x,s.args[i]?=some x:=⟨s.args[i]'(by rw[c.out.1];exact B),aI _⟩;obtain⟨t,n⟩:∃t,G.types[i]?=some t:=⟨G.types[i]'(by rw[c.out.2.1];omega),aI _⟩;obtain⟨g1,o1,rfl,r⟩:∃g o,qa=some ⟨g,o,none⟩/\∀j x,s.args[j]?=some x->w.cell? ⟨g,o+j,none⟩=some (.int .i64 x):=by
     rcases K.out with h|h
     ·rw[h]at z;simp at z
     ·exact h
    obtain⟨g2,o2,rfl,C⟩:∃g o,qt=some ⟨g,o,none⟩/\∀j x,G.types[j]?=some x->w.cell? ⟨g,o+j,none⟩=some (.int .i64 x):=by
     rcases Q.out with h|h
     ·rw[h]at n;simp at n
     ·exact h
    have k3:=r i x z;have k4:w.drew.cell? ⟨g2,o2+i,none⟩=some (.int .i64 t):=C i t n;have A2:(i:Int)<(na:Int):=by omega
    have A0:(i:Int)<(nt:Int):=by omega
    have HX:Hid ((s.args.zip G.types)[i]?=some (x,t)):=by show _=_;rw[cV];exact⟨z,n⟩
    clear r C z n;cases a:ng F x t with
    |true=>
     have M:Hid (((s.args.zip G.types).take (i+1)).all (λp=>ng F p.1 p.2)=true):=by show _=_;rw[gI HX.out,cZ,HA.out];simp[a]
     have P:=jI a;clear a
     go_wp2_with(go_at_call 112;refine(W.out _ _).mono ?_;rintro e w' ⟨rfl,rfl⟩;rw[P.out])
     exact⟨⟨i+1,by omega,by go_num,by trivial,M⟩,by simp[intOf];omega⟩
    |false=>
     have u:Hid (GG (.returned (.bool false)) w.drew):=by show GG _ _;rw[<-N.out,HF.out,pS HX.out a];exact⟨rfl,rfl⟩
     have P:=jI a;clear a
     go_wp2_with(go_at_call 112;refine(W.out _ _).mono ?_;rintro e w' ⟨rfl,rfl⟩;rw[P.out])
     exact u.out
   ·have E:i=na:=by omega
    subst E;have u:Hid (GG (.returned (.bool true)) w.drew):=by
     show GG _ _;have e:(s.args.zip G.types).take i=s.args.zip G.types:=by rw[cr (by rw[HZ.out];omega)]
     have:=HA.out;rw[e]at this;rw[<-N.out,HF.out,this];exact⟨rfl,rfl⟩
    go_wp2;exact u.out
 ·have u:Hid (GG (.returned (.bool false)) w.drew):=by show GG _ _;rw[<-N.out,Oz (by rw[c.out.1,c.out.2.2];exact h1)];exact⟨rfl,rfl⟩
  have t1:((na:Int) !=pa)=true:=by simpa using h1
  clear h1 b;go_enter Tryz.func115,Tryz.ntmps115
  go_wp2_with fail
  go_region;go_wp2;exact u.out
theorem CS(w:jW)(a b c:Nat)(s:Ms)(F:Mf):aA 115 #[jQ (some (jB a b)),jQ none,Jq c] w (S0 (kA F none s.args) w):=by
 generalize d:S0 (kA F none s.args) w=GG;have e:Hid (GG (jR (.bool false)) w.drew):=by show GG _ _;rw[<-d];exact⟨rfl,rfl⟩
 clear d;go_enter Tryz.func115,Tryz.ntmps115
 go_wp2_with fail
 go_region;go_wp2;exact e
end Go.Proofs.YtnfhpdbbfejioaaGreatDoor.Mid
namespace Go.Proofs.YtnfhpdbbfejioaaGreatDoor
open Go Go.RowKit
theorem zS:(∀{α:Type}{i:Nat}{a:α}{l:List α},l.toArray.setIfInBounds i a=(l.set i a).toArray)/\(∀{α:Type}{x:α}{xs:List α}{a:α},(x::xs).set 0 a=a::xs)/\(∀{α:Type}{x:α}{xs:List α}{n:Nat}{a:α},(x::xs).set (n+1) a=x::xs.set n a)/\(∀{α:Type}{l:List α}{i:Nat}(h:i<l.toArray.size),l.toArray[i]=l[i]'(by simpa using h))/\(∀{α:Type} (a:α) (l:List α) (h:0<(a::l).length),(a::l)[0]=a)/\(∀{α:Type} (a:α) (l:List α) (i:Nat) (h:i+1<(a::l).length),(a::l)[i+1]=l[i]'(by simpa using h)):=
 ⟨dH _ _ _,List.set_cons_zero,List.set_cons_succ,List.getElem_toArray,List.getElem_cons_zero,List.getElem_cons_succ⟩
theorem iW{P:Program}{b:Region.Mode}{d:Array Oper}{Q:Exit->Act->jW->Prop}{S:jW->Prop}(i:Nat){oi:Oper}{v:jU}{fuel:Nat}{e:Array Bool}{a:Act}{w:jW}(g:S w)
  (h:wpAnyH P b d Q S fuel (e.setIfInBounds i true) (a.put oi.dst v) w) (j:d[i]?=some oi:=by rfl)
  (k:Region.noSelect d=true:=by kernel_rfl) (l:Region.free b d e i=true:=by kernel_rfl) (m:(Region.ready b d e).contains i=true:=by kernel_rfl)
  (n:YieldsIf P d S oi v a:=by(refine Or.inl ⟨by rfl,?_⟩;intro w f;(try dsimp only at f);(first|obtain⟨_,_,_,_,_,_⟩:=f|obtain⟨_,_,_⟩:=f|skip);go_simp;try rfl)) (o:∀c a w,Q (.panic c) (a.put oi.dst v) w->Q (.panic c) a w:=by first|exact λ_ _ _ h=>h|exact λ_ _ _ h=>JN (by decide) h):wpAnyH P b d Q S (fuel+1) e a w:=
 wpAnyH_take j k l m o n g h
end Go.Proofs.YtnfhpdbbfejioaaGreatDoor
namespace Go.Proofs.YtnfhpdbbfejioaaGreatDoor.Mid
open Go Go.RowKit
variable {X:Mx}{F:Mf}{s:Ms}{b g d P a fb k:Nat}{w w0:jW}{r:Rs}{n:Int}{cs:Array Value}
abbrev AD(c:Int):Prop:=c=1\/c=2\/c=3\/c=7\/c=9\/c=10\/c=11\/c=14
theorem Nu(c:oU X)(e:ux X){o:Nat}(f:g8 X.wc b o s)(h:Ji X.fs F s)(hc:AD s.code){i:Nat}(j:uy X g){own:List Vl}(k:Sm X.w0 X.P X.fv w r d)(l:nO w i r.ab own)(m:own.length=F.types.length)(hk:own.length<=1000000)(n:∀out,eI X.fs g d s own r.s≠.error (99,out)):
  aA 82 (KX X b o i own.length) w (ur X w r d (eI X.fs g d s own r.s)):=by
 rcases hc with hc|hc|hc|hc|hc|hc|hc|hc
 ·exact Hc c f hc k
 ·exact Jz c f hc k l (by rw[m];exact h.a (by omega)) hk
 ·exact NV c f hc k l (by rw[m];exact h.a (by omega)) (by rw[m];exact h.b (by omega)) hk
 ·exact Jk c e f h hc j k l m hk n
 ·exact Pz c f hc k l (by rw[m];exact h.a (by omega)) hk
 ·exact PA c f hc k l (by rw[m];exact h.a (by omega)) hk
 ·exact Lp c f hc k l (by rw[m];exact h.a (by omega)) (by rw[m];exact h.b (by omega)) hk
 ·exact G_ c f hc k
theorem nN{a:jU}(h:Sm w0 P a w r d):iX P w=r.s.fuel.toNat:=by
 have b:w.cell? (jB P 3)=some (jV r.s.fuel):=jc 3 h.pb;unfold iX;rw[b]
structure LW (X:Mx) (fb fo mb:Nat) (F:Mf) (w:jW) (r0:Rs) (d ob g:Nat) (o:List Vl) (wr:jW) (k:Nat):Prop where
 at':∃(g':Nat)(r':Rs)(o':List Vl),Sm X.w0 X.P X.fv wr r' (d+1)/\Fz X.P (λb=>b=ob) w r0 wr r'/\nO wr ob r'.ab o'/\o'.length=F.types.length/\g'<=g/\k<F.steps.length/\iK X.fs g (d+1) F 0 o r0.s=iK X.fs g' (d+1) F k o' r'.s
 box:wr.heap[w.heap.size]?=some (jC #[jQ (some (jB fb fo)),.map (some mb)] 120)
theorem AE(h:El X F fb a b)(c:F.steps[k]?=some s)(d:s.code≠8)(e:s.code≠4):k+1<F.steps.length:=by
 obtain⟨t,h1,h2⟩:=h.last;have hk:=(aK.1 c).1;rcases bG (k+1) F.steps.length with f|f
 ·exact f
 ·have:k=F.steps.length-1:=by omega
  rw[this,h1]at c;injection c with c;subst c;omega
theorem Ed(h:El X F fb a b){x:Int}(hk:fA F.steps x=some k):k+1<F.steps.length:=by
 unfold fA at hk;rw[List.findIdx?_eq_some_iff_getElem]at hk;obtain⟨h1,h2,_⟩:=hk;refine AE h (aI h1) ?_ ?_
 all_goals
  intro e;simp[e]at h2
theorem IZ{o:List Vl}{s:Sg}{g':Nat}(h:∀out,iK X.fs g' d F k o s≠.error (99,out)):∃a,g'=a+1:=by
 cases g' with
 |zero=>exact absurd (QU X.fs d F k o s) (h _)
 |succ a=>exact⟨a,rfl⟩
def stepG(fs:By->Option Mf)(g d:Nat)(F:Mf)(k:Nat)(o:List Vl)(s:Ms):ld Int:=
 if s.code=8 then gp (pl o s.a).1
 else if s.code=4 then iK fs g d F ((fA F.steps s.label).getD 0+1) o
 else if s.code=5 then(if(pl o s.a).1=0 then iK fs g d F ((fA F.steps s.label).getD 0+1) o else iK fs g d F (k+1) o)
 else if s.code=13 then gb (lO (pl o s.a).1) λ_=>iK fs g d F (k+1) o
 else if s.code=12 then gb (qm (pl o s.a).2 (pl o s.b).1 (pl o s.c).1) λ_=>iK fs g d F (k+1) o
 else if s.code=6 then iK fs g d F (k+1) o
 else gb (eI fs g d s o) λv=>iK fs g d F (k+1) (o.set s.dst.toNat v)
theorem LX{fs:By->Option Mf}{o:List Vl}(h:F.steps[k]?=some s):iK fs (g+1) d F k o=gb Dr λ_=>stepG fs g d F k o s:=by
 rw[uz,h];rfl
theorem QL{fs:By->Option Mf}{o:List Vl}(h:s.code=8):stepG fs g d F k o s=gp (pl o s.a).1:=by unfold stepG;simp[h]
theorem QM{fs:By->Option Mf}{o:List Vl}(h:s.code=4):stepG fs g d F k o s=iK fs g d F ((fA F.steps s.label).getD 0+1) o:=by unfold stepG;simp[h]
theorem Nv{fs:By->Option Mf}{o:List Vl}(h:s.code=5):stepG fs g d F k o s=(if(pl o s.a).1=0 then iK fs g d F ((fA F.steps s.label).getD 0+1) o else iK fs g d F (k+1) o):=by unfold stepG;simp[h]
theorem LY{fs:By->Option Mf}{o:List Vl}(h:s.code=13):stepG fs g d F k o s=gb (lO (pl o s.a).1) λ_=>iK fs g d F (k+1) o:=by unfold stepG;simp[h]
theorem LZ{fs:By->Option Mf}{o:List Vl}(h:s.code=12):stepG fs g d F k o s=gb (qm (pl o s.a).2 (pl o s.b).1 (pl o s.c).1) λ_=>iK fs g d F (k+1) o:=by unfold stepG;simp[h]
theorem QN{fs:By->Option Mf}{o:List Vl}(h:s.code=6):stepG fs g d F k o s=iK fs g d F (k+1) o:=by unfold stepG;simp[h]
theorem Nw{fs:By->Option Mf}{o:List Vl}(h:AD s.code):stepG fs g d F k o s=gb (eI fs g d s o) λv=>iK fs g d F (k+1) (o.set s.dst.toNat v):=by
 unfold stepG;rw[if_neg (by omega),if_neg (by omega),if_neg (by omega),if_neg (by omega),if_neg (by omega),if_neg (by omega)]
theorem I_{s:Sg}(h:200<=s.out.length):lO n s= .error (7,s.out):=if_pos h
theorem Ja{s:Sg}(h:s.out.length<200):lO n s= .ok ((),{s with out:=s.out++[n]}):=if_neg (by omega)
theorem Jb{a:jU}(h:w.heap[b]?=some (.cells cs 120))(c:Sm w0 P a w r d):¬Xs P r b:=by
 rintro(rfl|f|f)
 ·have:=c.pb;rw[h]at this;injection this with this;injection this with _ e;cases e
 ·obtain⟨p,j,rfl⟩:=aT.1 f;obtain⟨i,k⟩:=a7 j;obtain⟨l,_,_,_,m⟩:=c.arr i p.1 p.2 k;rw[h]at m;injection m with m;injection m with _ e;cases e
 ·rcases c.out.2 with⟨n,_⟩|⟨g,o,q,n,s,t,_⟩
  ·rw[n]at f;cases f
  ·rw[n]at f;have:g=b:=by injection f
   subst this;rw[t]at h;injection h with h;injection h with _ e;cases e
theorem Ee{a:jW}{c:Rs}{e B:Nat}(h:w.heap[B]?=some (.cells cs 120))(f:Sm X.w0 X.P X.fv w r d)(g:B≠e)(i:Fz X.P (λb=>b=e) w r a c):a.heap[B]?=some (.cells cs 120):=by
 rw[i.blk B (aC.1 h).1 (Jb h f) g];exact h
def Fl{α:Type}(x:ld α):Prop:=∀s a b,x s= .ok (a,b)->b.fuel<=s.fuel
theorem gZ{α:Type}(a:α):Fl (gp a):=λs b c h=>by injection h with h;injection h with _ h;subst h;exact cC _
theorem jy{α:Type}(k:Int):Fl (gt k:ld α):=λs b a h=>by cases h
theorem i7{α c:Type}{x:ld α}{f:α->ld c}(d:Fl x)(g:∀a,Fl (f a)):Fl (gb x f):=λs b i h=>by
 unfold gb at h;cases e:x s with
 |error k=>rw[e]at h;cases h
 |ok p=>
  obtain⟨a,j⟩:=p;rw[e]at h;have h1:=d s a j e;have h2:=g a j b i h;omega
theorem qM:Fl Dr:=λs a b h=>by
 unfold Dr at h;split at h
 ·cases h
 ·injection h with h;injection h with _ h;subst h;show s.fuel-1<=s.fuel;omega
theorem pC(n:Int):Fl (lO n):=λs a b h=>by
 unfold lO at h;split at h
 ·cases h
 ·injection h with h;injection h with _ h;subst h;exact cC _
theorem pD:Fl rE:=λs a b h=>by injection h with h;injection h with _ h;subst h;exact cC _
theorem vq(n:Int):Fl (qj n):=λs a b h=>by
 unfold qj at h;split at h
 ·cases h
 ·injection h with h;injection h with _ h;subst h;exact cC _
theorem sr(q:Option Nat):Fl (zX q):=λs a b h=>by injection h with h;injection h with _ h;subst h;exact cC _
theorem pE(q:Option Nat)(i:Int):Fl (lQ q i):=λs a b h=>by
 unfold lQ at h;split at h
 ·cases h
 ·injection h with h;injection h with _ h;subst h;exact cC _
theorem su(q:Option Nat)(i n:Int):Fl (qm q i n):=λs a b h=>by
 unfold qm at h;split at h
 ·cases h
 ·injection h with h;injection h with _ h;subst h;exact cC _
theorem pF(c:By)(a b:Int):Fl (gU c a b):=by
 unfold gU;split
 ·exact jy _
 ·exact gZ _
theorem vu{fs:By->Option Mf}(a:∀d F k o,Fl (iK fs g d F k o))(d:Nat)(s:Ms)(o:List Vl):Fl (eI fs g d s o):=by
 unfold eI;split
 ·exact gZ _
 split
 ·exact i7 (pF _ _ _) (λ_=>gZ _)
 split
 ·split
  ·exact jy _
  ·split
   ·exact jy _
   ·exact i7 (a _ _ _ _) (λ_=>gZ _)
 split
 ·exact vq _
 split
 ·exact i7 (sr _) (λ_=>gZ _)
 split
 ·exact i7 (pE _ _) (λ_=>gZ _)
 split
 ·exact i7 pD (λ_=>gZ _)
 ·exact gZ _
theorem wO(fs:By->Option Mf):∀g d F k o,Fl (iK fs g d F k o)
 |0=>λd F k o=>jy _
 |g+1=>λd F k o=>by
  have a:=wO fs g;rw[uz];refine i7 qM (λ_=>?_);split
  ·exact jy _
  ·split
   ·exact gZ _
   split
   ·exact a _ _ _ _
   split
   ·split<;>exact a _ _ _ _
   split
   ·exact i7 (pC _) (λ_=>a _ _ _ _)
   split
   ·exact i7 (su _ _ _) (λ_=>a _ _ _ _)
   split
   ·exact a _ _ _ _
   ·exact i7 (vu a _ _ _) (λ_=>a _ _ _ _)
structure Frm where
 d:Int
 a:Int
 b:Int
 c:Int
 g:Bool
def l9:Nat->Frm
 |1=>⟨1,0,0,0,false⟩
 |3=>⟨1,1,1,0,false⟩
 |4=>⟨0,0,0,0,true⟩
 |5=>⟨0,1,0,0,true⟩
 |7=>⟨1,0,0,0,false⟩
 |8=>⟨0,1,0,0,false⟩
 |9=>⟨2,1,0,0,false⟩
 |10=>⟨1,2,0,0,false⟩
 |11=>⟨1,2,1,0,false⟩
 |12=>⟨0,2,1,1,false⟩
 |13=>⟨0,1,0,0,false⟩
 |14=>⟨1,0,0,0,false⟩
 |_=>⟨0,0,0,0,false⟩
def AR(w:jW):Prop:=∀j,j<15->w.cell? ⟨3,j*5,none⟩=some (jV (l9 j).d)/\w.cell? ⟨3,j*5+1,none⟩=some (jV (l9 j).a)/\w.cell? ⟨3,j*5+2,none⟩=some (jV (l9 j).b)/\w.cell? ⟨3,j*5+3,none⟩=some (jV (l9 j).c)/\w.cell? ⟨3,j*5+4,none⟩=some (.bool (l9 j).g)
def od(fs:By->Option Mf)(F:Mf)(s:Ms):Bool:=
 if s.code=2 then(ng F s.dst 1&&ng F s.a 1)||(ng F s.dst 2&&ng F s.a 2)
 else if s.code=3 then nj s.op
 else if s.code=7 then kA F (fs s.name) s.args
 else true
def Hs(F:Mf)(s:Ms)(m:Frm):Bool:=jD F s.dst m.d&&(jD F s.a m.a&&(jD F s.b m.b&&jD F s.c m.c))
def jb(fs:By->Option Mf)(F:Mf)(s:Ms):Bool:=
 decide (1<=s.code/\s.code<=14)&&(Hs F s (l9 s.code.toNat)&&((!(l9 s.code.toNat).g||(fA F.steps s.label).isSome)&&od fs F s))
structure StE (w:World) (fs:By->Option Mf) (fb fo sb so mb nb:Nat) (F:Mf) (s:Ms):Prop where
 fn:eX w fb fo F
 st:g8 w sb so s
 fm:AR w
 mks:zq w
 lab:∃n,Mp 3 w mb (n_ F.steps) n
 by':∃f n,Mp 9 w nb f n/\((f (.string s.name)=none/\fs s.name=none)\/∃gb go G,f (.string s.name)=some (.pointer (some ⟨gb,go,none⟩))/\fs s.name=some G/\eX w gb go G/\fe G=true)
theorem Ss{fs:By->Option Mf}(h:¬(1<=s.code/\s.code<=14)):jb fs F s=false:=by unfold jb;rw[decide_eq_false h];rfl
theorem P9{fs:By->Option Mf}(h:s.code=a)(h1:1<=a)(h2:a<=14):jb fs F s=(Hs F s (l9 a)&&((!(l9 a).g||(fA F.steps s.label).isSome)&&od fs F s)):=by
 unfold jb;rw[decide_eq_true (by omega),h,aR];rfl
theorem Su(h:(l9 a).g=true):a=4\/a=5:=by
 unfold l9 at h;split at h<;>simp_all
theorem wV.below{w':jW}(h:wV w a F)(b:az w w'):wV w' a F:=by
 obtain⟨fb,c,h1,h2⟩:=h;exact⟨fb,c,by rw[b.cell (p:=(jA a)) (fE h1)];exact h1,h2.below b⟩
theorem Ht(w:World)(fs:By->Option Mf)(fb fo T S mb nb:Nat)(F:Mf)(s:Ms)(h:StE w fs fb fo T S mb nb F s):
  aA 77 #[.pointer (some ⟨fb,fo,none⟩),.pointer (some ⟨T,S,none⟩),.map (some mb),.map (some nb)] w (BF (jb fs F s) w):=by
 have k0:=h.st.c0;have H:=jI h;obtain⟨cc,A9⟩:∃cc,s.code=cc:=⟨_,rfl⟩;rw[A9]at k0;have I:=jI A9;generalize hG:BF (jb fs F s) w=G;have HG:=jI hG;clear h hG A9;have e1:∀W,az w W->W.cell? ⟨T,S,none⟩=some (.int .i64 cc):=λW L=>by rw[L.cell (p:=⟨T,S,none⟩) (fE k0)];exact k0
 obtain⟨Q,A⟩:=aB ((w.alloc (.cells #[.pointer (some ⟨fb,fo,none⟩)] 109)).alloc (.cells #[Jq w.heap.size] 216));have d:Hid (az w Q):=by rw[A];exact(ip _ _).trans ((ip _ _).mono (by simp))
 have k2:=e1 Q d;rw[A]at k2;by_cases hr:1<=cc/\cc<=14
 ·obtain⟨cd,rfl⟩:∃cd:Nat,cc=cd:=⟨cc.toNat,by omega⟩;have HR:Hid (1<=cd/\cd<=14):=⟨by omega,by omega⟩;obtain⟨f0,f1,f2,f3,f4⟩:=H.fm cd (by omega);obtain⟨m,hm⟩:∃m,l9 cd=m:=⟨_,rfl⟩;rw[hm]at f0 f1 f2 f3 f4;obtain⟨md,ma,mB,mc,mg⟩:=m;have HM:=jI hm;dsimp only at f0 f1 f2 f3 f4;have J:∀W,az w W->∀(b o:Nat)(v:Value),w.cell? ⟨b,o,none⟩=some v->W.cell? ⟨b,o,none⟩=some v:=λW L b o v hv=>by rw[L.cell (p:=⟨b,o,none⟩) (fE hv)];exact hv
  have g0:=J Q d _ _ _ f0;have g1:=J Q d _ _ _ f1;have g2:=J Q d _ _ _ f2;have g3:=J Q d _ _ _ f3;have g4:=J Q d _ _ _ f4;rw[A]at g0 g1 g2 g3 g4;obtain⟨z,M⟩:=aB (Q.alloc (.cells #[.int .i64 md,.int .i64 ma,.int .i64 mB,.int .i64 mc,.bool mg] 218));have C3:Q.heap.size=w.heap.size+2:=by rw[A];simp
  have l:Hid (az w z):=by rw[M];exact d.trans ((ip _ _).mono (by omega))
  have n0:z.heap[w.heap.size+2]?=some (.cells #[.int .i64 md,.int .i64 ma,.int .i64 mB,.int .i64 mc,.bool mg] 218):=by rw[M,<-C3];exact heap_alloc_last _ _
  have n1:z.heap[w.heap.size+1]?=some (.cells #[Jq w.heap.size] 216):=by
   rw[M,ed (by omega),A];have:=heap_alloc_last (w.alloc (.cells #[.pointer (some ⟨fb,fo,none⟩)] 109)) (.cells #[Jq w.heap.size] 216);simpa using this
  have n2:z.heap[w.heap.size]?=some (.cells #[.pointer (some ⟨fb,fo,none⟩)] 109):=by
   rw[M,ed (by omega),A,ed (by simp)];exact heap_alloc_last _ _
  have A3:Hid (∀n,wV (z.drewN n) w.heap.size F):=λn=>⟨fb,fo,eo (w:=z) (i:=0) n2 rfl,(H.fn.below l).below ⟨rfl,rfl,rfl,aD _,λ_ _=>rfl⟩⟩;have N:Hid (∀n p k b,jD F p k=b->aA 113 #[.int .i64 p,.int .i64 k,ptr (w.heap.size+1)] (z.drewN n) (λe w'=>e= .returned (.bool b)/\w'=z.drewN n)):=λn p k b L=>by subst L;exact Jr _ w.heap.size _ F p k (A3 n) (eo (w:=z) (i:=0) n1 rfl)
  have C7:Hid (∀n p k b,ng F p k=b->aA 112 #[.int .i64 p,.int .i64 k,ptr w.heap.size] (z.drewN n) (λe w'=>e= .returned (.bool b)/\w'=z.drewN n)):=λn p k b L=>by subst L;exact vx _ w.heap.size F p k (A3 n)
  have b1:=jc 0 n0;have b2:=jc 1 n0;have b3:=jc 2 n0;have b4:=jc 3 n0;have b5:=jc 4 n0;have b6:z.cell? ⟨w.heap.size+1,0,none⟩=some (.func (.func 112) #[] #[.pointer (some ⟨w.heap.size,0,none⟩)]):=jc 0 n1;have c0:=J z l _ _ _ H.st.c0;rw[I.out]at c0;have c1:=J z l _ _ _ H.st.c1;have c2:=J z l _ _ _ H.st.c2;have c3:=J z l _ _ _ H.st.c3;have c4:=J z l _ _ _ H.st.c4;obtain⟨xd,B7⟩:∃xd,s.dst=xd:=⟨_,rfl⟩;obtain⟨xa,B1⟩:∃xa,s.a=xa:=⟨_,rfl⟩;obtain⟨xb,B0⟩:∃xb,s.b=xb:=⟨_,rfl⟩;obtain⟨xc,B5⟩:∃xc,s.c=xc:=⟨_,rfl⟩;have P:Hid (s.dst=xd/\s.a=xa/\s.b=xb/\s.c=xc):=⟨B7,B1,B0,B5⟩;rw[B7]at c1;rw[B1]at c2;rw[B0]at c3;rw[B5]at c4;have D2:(cd:Int)<15:=by omega
  have t1:decide ((cd:Int)<1)=false:=decide_eq_false (by omega);have t2:decide ((15:Int)<=(cd:Int))=false:=decide_eq_false (by omega);have C8:Hid (z=((w.alloc (.cells #[.pointer (some ⟨fb,fo,none⟩)] 109)).alloc (.cells #[Jq w.heap.size] 216)).alloc (.cells #[.int .i64 md,.int .i64 ma,.int .i64 mB,.int .i64 mc,.bool mg] 218)):=by show _=_;rw[M,A]
  clear hr f0 f1 f2 f3 f4 J hm M A d C3 e1 n0 n1 n2 B7 B1 B0 B5 k0;go_enter Tryz.func77,Tryz.ntmps77
  go_upto_region 6 with fail
  rw[<-C8.out];clear k2 g0 g1 g2 g3 g4
  go_cut [75] (λv wx=>v= .bool (!(jD F xd md&&(jD F xa ma&&(jD F xb mB&&jD F xc mc))))/\∃nq,wx=z.drewN nq)
  case first=>
   cases A6:jD F xd md with
   |false=>
    have u:=jI A6;clear A6
    go_quiet ((go_at_call 113;exact Calls.quiet_of_same (N _ _ _ _ (by first|exact u))))
    go_wp2
    go_meet
    exact⟨by rw[u.out];rfl,_,rfl⟩
   |true=>
    have u:=jI A6;clear A6;cases A5:jD F xa ma with
    |false=>
     have d:=jI A5;clear A5
     go_quiet ((go_at_call 113;exact Calls.quiet_of_same (N _ _ _ _ (by first|exact u|exact d))))
     go_wp2
     go_meet
     exact⟨by rw[u.out,d.out];rfl,_,rfl⟩
    |true=>
     have d:=jI A5;clear A5;cases A1:jD F xb mB with
     |false=>
      have l:=jI A1;clear A1
      go_quiet ((go_at_call 113;exact Calls.quiet_of_same (N _ _ _ _ (by first|exact u|exact d|exact l))))
      go_wp2
      go_meet
      exact⟨by rw[u.out,d.out,l.out];rfl,_,rfl⟩
     |true=>
      have l:=jI A1;clear A1;cases A0:jD F xc mc with
      |false=>
       have y:=jI A0;clear A0
       go_quiet ((go_at_call 113;exact Calls.quiet_of_same (N _ _ _ _ (by first|exact u|exact d|exact l|exact y))))
       go_wp2
       go_meet
       exact⟨by rw[u.out,d.out,l.out,y.out];rfl,_,rfl⟩
      |true=>
       have y:=jI A0;clear A0
       go_quiet ((go_at_call 113;exact Calls.quiet_of_same (N _ _ _ _ (by first|exact u|exact d|exact l|exact y))))
       go_wp2
       go_meet
       exact⟨by rw[u.out,d.out,l.out,y.out];rfl,_,rfl⟩
  case rest=>
   obtain⟨rfl,nq,D⟩:=hcut;obtain⟨g,C6⟩:=aB wc;rw[<-C6]at D⊢;clear C6;have y:Hid (az w g):=by rw[D];exact l.trans ⟨rfl,rfl,rfl,aD _,λ_ _=>rfl⟩
   have d0:g.cell? ⟨T,S,none⟩=some (.int .i64 (cd:Int)):=by rw[D];exact c0
   have d1:g.cell? ⟨T,S+1,none⟩=some (.int .i64 xd):=by rw[D];exact c1
   have d2:g.cell? ⟨T,S+2,none⟩=some (.int .i64 xa):=by rw[D];exact c2
   have d5:g.cell? ⟨w.heap.size+2,4,none⟩=some (.bool mg):=by rw[D];exact b5
   have d6:g.cell? ⟨w.heap.size+1,0,none⟩=some (.func (.func 112) #[] #[.pointer (some ⟨w.heap.size,0,none⟩)]):=by rw[D];exact b6
   have C0:Hid (∀n,wV (g.drewN n) w.heap.size F):=λn=>by rw[D,World.drewN_drewN];exact A3 _
   have B:Hid (∀n,az w (g.drewN n)):=λn=>y.trans ⟨rfl,rfl,rfl,aD _,λ_ _=>rfl⟩;clear b1 b2 b3 b4 b5 b6 c0 c1 c2 c3 c4 D l A3 N C7;have f:Hid (∀n b,jb fs F s=b->G (.returned (.bool b)) (g.drewN n)):=λn b L=>by
    rw[<-HG.out,L];exact⟨rfl,B n⟩
   have U:Hid (∀n p k b,ng F p k=b->aA 112 #[.int .i64 p,.int .i64 k,ptr w.heap.size] (g.drewN n) (λe w'=>e= .returned (.bool b)/\w'=g.drewN n)):=λn p k b L=>by subst L;exact vx _ w.heap.size F p k (C0 n)
   have C4:Hid (jb fs F s=((jD F xd md&&(jD F xa ma&&(jD F xb mB&&jD F xc mc)))&&((!mg||(fA F.steps s.label).isSome)&&od fs F s))):=by
    show _=_;rw[P9 I.out HR.out.1 HR.out.2,HM.out];unfold Hs;rw[P.out.1,P.out.2.1,P.out.2.2.1,P.out.2.2.2]
   cases A4:(jD F xd md&&(jD F xa ma&&(jD F xb mB&&jD F xc mc))) with
   |false=>
    have r:Hid (∀n,G (.returned (.bool false)) (g.drewN n)):=λn=>f n false (by rw[C4.out,A4];rfl);clear A4;go_wp2;exact r 0
   |true=>
    have B8:Hid (jb fs F s=((!mg||(fA F.steps s.label).isSome)&&od fs F s)):=by show _=_;rw[C4.out,A4];rfl
    clear A4;have J:∀W,az w W->∀(b o:Nat)(v:Value),w.cell? ⟨b,o,none⟩=some v->W.cell? ⟨b,o,none⟩=some v:=λW L b o v hv=>by rw[L.cell (p:=⟨b,o,none⟩) (fE hv)];exact hv
    have c7:=J g y _ _ _ H.st.c7;have c6:=J g y _ _ _ H.st.c6;have c8:=J g y _ _ _ H.st.c8;obtain⟨ml,B3⟩:=H.lab;have lk:=(B3.kept (y.block _ B3.lt)).look2 Sb yG (tF _) (yF s.label H.st.i1.2.2.2.2.2.2);obtain⟨lv,C2⟩:=aB ((n_ F.steps (.int .i64 s.label)).getD (.int .i64 0));obtain⟨th,B6⟩:=aB ((n_ F.steps (.int .i64 s.label)).isSome);rw[<-C2,<-B6]at lk;have B9:Hid ((fA F.steps s.label).isSome=th):=by
     show _=_;rw[B6];show _=((fA F.steps s.label).map _).isSome;rw[Option.isSome_map]
    obtain⟨x7,C1⟩:∃x7,s.label=x7:=⟨_,rfl⟩;obtain⟨y6,B4⟩:∃y6:ByteArray,y6=⟨s.op.toArray⟩:=⟨_,rfl⟩;obtain⟨y8,V⟩:∃y8:ByteArray,y8=⟨s.name.toArray⟩:=⟨_,rfl⟩;rw[C1]at c7 lk;rw[<-B4]at c6;rw[<-V]at c8;have HY:Hid (y6.data.toList=s.op/\y8.data.toList=s.name):=⟨by rw[B4],by rw[V]⟩;have C5:=jI V;clear B3 C2 B6 C1 B4 V J;cases mg with
    |true=>
     have Y:=Su (by rw[HM.out]);have u2:((cd:Int)==2)=false:=by rcases Y with rfl|rfl<;>rfl
     have u3:((cd:Int)==3)=false:=by rcases Y with rfl|rfl<;>rfl
     have u7:((cd:Int)==7)=false:=by rcases Y with rfl|rfl<;>rfl
     have q:Hid (od fs F s=true):=by
      show _=_;unfold od;rw[I.out,if_neg (by omega),if_neg (by omega),if_neg (by omega)]
     clear Y;cases th with
     |true=>
      have r:Hid (∀n,G (.returned (.bool true)) (g.drewN n)):=λn=>f n true (by rw[B8.out,B9.out,q.out];rfl);go_wp2;exact r 0
     |false=>
      have r:Hid (∀n,G (.returned (.bool false)) (g.drewN n)):=λn=>f n false (by rw[B8.out,B9.out];rfl);go_wp2;exact r 0
    |false=>
     have C:Hid (jb fs F s=od fs F s):=by show _=_;rw[B8.out];rfl
     by_cases q2:cd=2
     ·subst q2;have q:Hid (od fs F s=((ng F xd 1&&ng F xa 1)||(ng F xd 2&&ng F xa 2))):=by
       show _=_;unfold od;rw[I.out,if_pos (by omega),P.out.1,P.out.2.1]
      cases Z:ng F xd 1 with
      |false=>
       have t:=jI Z;clear Z;cases E:ng F xd 2 with
       |false=>
        have x:=jI E;clear E;have r:Hid (∀n,G (.returned (.bool (false))) (g.drewN n)):=λn=>f n _ (by rw[C.out,q.out,t.out,x.out];simp)
        go_wp2_with fail
        go_quiet ((go_at_call 112;exact Calls.quiet_of_same (U _ _ _ _ (by first|exact t|exact x|rfl))))
        go_wp2;exact r _
       |true=>
        have x:=jI E;clear E;have r:Hid (∀n,G (.returned (.bool (ng F xa 2))) (g.drewN n)):=λn=>f n _ (by rw[C.out,q.out,t.out,x.out];simp)
        go_wp2_with fail
        go_quiet ((go_at_call 112;exact Calls.quiet_of_same (U _ _ _ _ (by first|exact t|exact x|rfl))))
        go_wp2;exact r _
      |true=>
       have t:=jI Z;clear Z;cases A2:ng F xa 1 with
       |false=>
        have K:=jI A2;clear A2;cases E:ng F xd 2 with
        |false=>
         have x:=jI E;clear E;have r:Hid (∀n,G (.returned (.bool (false))) (g.drewN n)):=λn=>f n _ (by rw[C.out,q.out,t.out,K.out,x.out];simp)
         go_wp2_with fail
         go_quiet ((go_at_call 112;exact Calls.quiet_of_same (U _ _ _ _ (by first|exact t|exact K|exact x|rfl))))
         go_wp2;exact r _
        |true=>
         have x:=jI E;clear E;have r:Hid (∀n,G (.returned (.bool (ng F xa 2))) (g.drewN n)):=λn=>f n _ (by rw[C.out,q.out,t.out,K.out,x.out];simp)
         go_wp2_with fail
         go_quiet ((go_at_call 112;exact Calls.quiet_of_same (U _ _ _ _ (by first|exact t|exact K|exact x|rfl))))
         go_wp2;exact r _
       |true=>
        have K:=jI A2;clear A2;have r:Hid (∀n,G (.returned (.bool (true))) (g.drewN n)):=λn=>f n _ (by rw[C.out,q.out,t.out,K.out];simp)
        go_wp2_with fail
        go_quiet ((go_at_call 112;exact Calls.quiet_of_same (U _ _ _ _ (by first|exact t|exact K|rfl))))
        go_wp2;exact r _
     by_cases q3:cd=3
     ·subst q3;have q:Hid (od fs F s=nj s.op):=by
       show _=_;unfold od;rw[I.out];rfl
      have r:Hid (∀n,G (.returned (.bool (nj y6.data.toList))) (g.drewN n)):=λn=>f n _ (by rw[C.out,q.out,HY.out.1]);have D0:Hid (∀n,aA 114 #[.string y6] (g.drewN n) (Jp (nj y6.data.toList) (g.drewN n))):=λn=>Fk _ y6 (λj hj=>by rw[<-H.mks j hj];exact(B n).cell (p:=⟨4,j,none⟩) (fE (H.mks j hj)))
      go_wp2_with(go_at_call 114;refine(D0 0).mono ?_;rintro e w' ⟨rfl,rfl⟩)
      exact r 0
     by_cases q7:cd=7
     ·subst q7;have q:Hid (od fs F s=kA F (fs s.name) s.args):=by
       show _=_;unfold od;rw[I.out];rfl
      obtain⟨f9,n9,O,D1⟩:=H.by'
      rcases D1 with⟨a1,a2⟩|⟨A7,B2,GG,a1,a2,a3,a4⟩
      ·skip
       have C9:∀n,(Instr.lookup 107 (.map (some nb)) (.string y8) false).run Tryz.prog (g.drewN n)= .ok (.pointer none) (g.drewN n):=λn=>by
        have:=(O.kept ((B n).block _ O.lt)).look IM uT (Af _) (rI y8 (by rw[C5.out];have:=H.st.i2.2;simpa[ByteArray.size] using this));rw[HY.out.2,a1]at this;exact this
       have r:Hid (∀n,G (.returned (.bool false)) (g.drewN n)):=λn=>f n _ (by rw[C.out,q.out,a2];rfl);have A8:Hid (∀n,aA 115 #[.pointer (some ⟨T,S,none⟩),.pointer none,Jq w.heap.size] (g.drewN n) (λe w'=>e= .returned (.bool false)/\∃m,w'=(g.drewN n).drewN m)):=λn=>(CS _ T S w.heap.size s F).mono (λe w' h=>⟨h.1,1,h.2⟩);clear a1 a2 O
       go_wp2_with fail
       go_quiet ((go_at_call 115;exact Calls.quiet_of (A8 _)))
       go_wp2;exact r _
      ·have C9:∀n,(Instr.lookup 107 (.map (some nb)) (.string y8) false).run Tryz.prog (g.drewN n)= .ok (.pointer (some ⟨A7,B2,none⟩)) (g.drewN n):=λn=>by
        have:=(O.kept ((B n).block _ O.lt)).look IM uT (Af _) (rI y8 (by rw[C5.out];have:=H.st.i2.2;simpa[ByteArray.size] using this));rw[HY.out.2,a1]at this;exact this
       have r:Hid (∀n,G (.returned (.bool (kA F (some GG) s.args))) (g.drewN n)):=λn=>f n _ (by rw[C.out,q.out,a2]);have A8:Hid (∀n,aA 115 #[.pointer (some ⟨T,S,none⟩),.pointer (some ⟨A7,B2,none⟩),Jq w.heap.size] (g.drewN n) (λe w'=>e= .returned (.bool (kA F (some GG) s.args))/\∃m,w'=(g.drewN n).drewN m)):=λn=>(Fo _ T S w.heap.size A7 B2 s F GG (H.st.below (B n)) (C0 n) (a3.below (B n)) a4).mono (λe w' h=>⟨h.1,1,h.2⟩);clear a1 a2 a3 a4 O
       go_wp2_with fail
       go_quiet ((go_at_call 115;exact Calls.quiet_of (A8 _)))
       go_wp2;exact r _
     have u2:((cd:Int)==2)=false:=by simpa using (by omega:¬(cd:Int)=2)
     have u3:((cd:Int)==3)=false:=by simpa using (by omega:¬(cd:Int)=3)
     have u7:((cd:Int)==7)=false:=by simpa using (by omega:¬(cd:Int)=7)
     have q:Hid (od fs F s=true):=by
      show _=_;unfold od;rw[I.out,if_neg (by omega),if_neg (by omega),if_neg (by omega)]
     have r:Hid (∀n,G (.returned (.bool true)) (g.drewN n)):=λn=>f n true (by rw[C.out,q.out]);clear q2 q3 q7;go_wp2;exact r 0
 ·have r:Hid (G (.returned (.bool false)) Q):=by show G _ _;rw[<-HG.out,Ss (by rw[I.out];exact hr)];exact⟨rfl,d⟩
  rw[A]at r;clear A d e1;by_cases h1:cc<1
  ·have t1:=decide_eq_true h1;go_enter Tryz.func77,Tryz.ntmps77;go_wp2;exact r
  ·have t1:=decide_eq_false h1;have t2:=decide_eq_true (by omega);go_enter Tryz.func77,Tryz.ntmps77;go_wp2;exact r
end Go.Proofs.YtnfhpdbbfejioaaGreatDoor.Mid
