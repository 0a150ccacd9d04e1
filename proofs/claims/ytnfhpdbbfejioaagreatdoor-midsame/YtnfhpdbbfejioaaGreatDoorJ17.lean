/- QH HA QI QJ SW -/
import Derived.Test.YtnfhpdbbfejioaaGreatDoorJ12
set_option linter.unusedVariables false
set_option linter.unusedSimpArgs false
set_option maxRecDepth 100000
set_option maxHeartbeats 16000000
namespace Go.Proofs.YtnfhpdbbfejioaaGreatDoor.Mid
open Go Go.RowKit
variable {F:Mf}{w w':jW}{nb:Nat}
def xf(l:List Ms):Bool:=decide (((l.filter (λs=>s.code==6)).map (·.label)).Nodup)
theorem EB{l:List Ms}(h:gB l):xf l=true:=decide_eq_true h
theorem JA{l:List Ms}(h:¬gB l):xf l=false:=decide_eq_false h
def oN(F:Mf):Bool:=match F.steps[F.steps.length-1]? with
 |some s=>s.code==8||s.code==4
 |none=>false
def gM(fs:By->Option Mf)(F:Mf):Bool:=decide (1<=F.steps.length/\F.steps.length<=6000)&&(oN F&&(xf F.steps&&F.steps.all (jb fs F)))
theorem QY{fs:By->Option Mf}(h:¬(1<=F.steps.length/\F.steps.length<=6000)):gM fs F=false:=by unfold gM;rw[decide_eq_false h];rfl
theorem Tf{fs:By->Option Mf}(h:oN F=false):gM fs F=false:=by unfold gM;rw[h];simp
theorem Tg{fs:By->Option Mf}(h:¬gB F.steps):gM fs F=false:=by unfold gM;rw[JA h];simp
theorem Th{fs:By->Option Mf}(h1:1<=F.steps.length/\F.steps.length<=6000)(h2:oN F=true)(a:gB F.steps):gM fs F=F.steps.all (jb fs F):=by unfold gM;rw[decide_eq_true h1,h2,EB a];simp
def EC(w:World)(fs:By->Option Mf)(a:Nat):Prop:=∃f n,Mp 9 w a f n/\∀nm,(f (.string nm)=none/\fs nm=none)\/∃gb b G,f (.string nm)=some (.pointer (some ⟨gb,b,none⟩))/\fs nm=some G/\eX w gb b G/\fe G=true
theorem EC.below{fs:By->Option Mf}(h:EC w fs nb)(a:az w w'):EC w' fs nb:=by
 obtain⟨f,n,h1,h2⟩:=h;refine⟨f,n,h1.kept (a.block _ h1.lt),λnm=>?_⟩;rcases h2 nm with h|⟨gb,b,G,c,d,e,g⟩
 ·exact .inl h
 ·exact .inr ⟨gb,b,G,c,d,e.below a,g⟩
theorem AR.below(h:AR w)(f:az w w'):AR w':=λj g=>by
 obtain⟨a,b,c,d,e⟩:=h j g;have i:∀(o:Nat)(v:jU),w.cell? (jB 3 o)=some v->w'.cell? (jB 3 o)=some v:=λo v k=>by rw[f.cell (p:=(jB 3 o)) (fE k)];exact k
 exact⟨i _ _ a,i _ _ b,i _ _ c,i _ _ d,i _ _ e⟩
theorem zq.below(h:zq w)(a:az w w'):zq w':=λj b=>by
 rw[<-h j b];exact a.cell (p:=(jB 4 j)) (fE (h j b))
structure NW (w:jW) (fs:By->Option Mf) (nb:Nat):Prop where
 fm:AR w
 mks:zq w
 fns:EC w fs nb
theorem NW.below{fs:By->Option Mf}(h:NW w fs nb)(a:az w w'):NW w' fs nb:=⟨h.fm.below a,h.mks.below a,h.fns.below a⟩
theorem NW.st{fs:By->Option Mf}{fb a b c d e:Nat}{s:Ms}(h:NW w fs e)(g:eX w fb a F)(i:g8 w b c s)(j:∃n,Mp 3 w d (n_ F.steps) n):StE w fs fb a b c d e F s:=by
 obtain⟨f,n,h1,h2⟩:=h.fns;exact⟨g,i,h.fm,h.mks,j,f,n,h1,h2 s.name⟩
theorem CF(w:jW)(fs:By->Option Mf)(fb a d:Nat)(F:Mf)(h:eX w fb a F)(f:NW w fs d):aA 47 #[jQ (some (jB fb a)),.map (some d)] w (BF (gM fs F) w):=by
 obtain⟨q,c,k,hc,l⟩:=h.c3;obtain⟨o,r,t⟩:=j3 h f l;obtain⟨n,u⟩:=aB F.steps.length;have x:=jI u;have y:n<=1000000:=by rw[u];exact h.i2.2.2
 rw[<-u]at k hc;generalize z:BF (gM fs F) w=G;have A:=jI z;have B:Hid (∀W b,az w W->gM fs F=b->G (jR (.bool b)) W):=λW b C D=>by rw[<-A.out,D];exact⟨rfl,C⟩
 clear l h u f z;by_cases h1:n<1
 ·have E:Hid (G (jR (.bool false)) w):=B w false (aJ _ _) (QY (by rw[<-x.out];omega));have H:decide ((n:Int)<1)=true:=decide_eq_true (by omega);go_enter Tryz.func47,Tryz.ntmps47;go_wp2;exact E
 by_cases h2:6000<n
 ·have E:Hid (G (jR (.bool false)) w):=B w false (aJ _ _) (QY (by rw[<-x.out];omega));have H:=decide_eq_false (by omega);have I:=decide_eq_true (by omega);go_enter Tryz.func47,Tryz.ntmps47;go_wp2;exact E
 have J:1<=n/\n<=6000:=⟨by omega,by omega⟩;obtain⟨K,rfl⟩:∃K,n=K+1:=⟨n-1,by omega⟩;obtain⟨s,L⟩:∃s,F.steps[K]?=some s:=⟨F.steps[K]'(by rw[<-x.out];omega),aI _⟩;obtain⟨gs,M,rfl,N⟩:∃g p,q=some (jB g p)/\∀j s,F.steps[j]?=some s->g8 w g (p+j*10) s:=by
  rcases t with h|h
  ·rw[h]at L;simp at L
  ·exact h
 have O:=jI N;have P:=(N K s L).c0;obtain⟨cd,Q⟩:∃cd,s.code=cd:=⟨_,rfl⟩;rw[Q]at P;have S:Hid (oN F=(cd==8||cd==4)):=by
  show _=_;unfold oN;rw[<-x.out,dG,L,<-Q]
 have H:=decide_eq_false (by omega);have I:=decide_eq_false (by omega);have T:Hid (1<=F.steps.length/\F.steps.length<=6000):=⟨by rw[<-x.out];omega,by rw[<-x.out];omega⟩;clear L N h1 h2 Q;have U:=jI (tZ w fb a F o);cases V:(cd==8||cd==4) with
 |false=>
  have E:=jI (B w false (aJ _ _) (Tf (by rw[S.out,V])));have Y:(cd !=8)=true:=by simp at V;simp[V]
  have Z:(cd !=4)=true:=by simp at V;simp[V]
  clear V;go_enter Tryz.func47,Tryz.ntmps47;go_wp2;exact E
 |true=>
  have y:Hid (oN F=true):=by show _=_;rw[S.out,V]
  have Q:cd=8\/cd=4:=by simpa using V
  clear V S;obtain⟨nz,f⟩:=aB (K+1);have u:=jI f;clear f;rcases Q with rfl|rfl
  all_goals
   go_enter Tryz.func47,Tryz.ntmps47
   go_wp2_with(go_at_call 76;fail)
   refine U.mono ?_;rintro e w1 ⟨z,⟨A,rfl,m,C,J⟩|⟨t,rfl⟩⟩
   rotate_left
   ·have E:=jI (B w1 false z (Tg t));clear z t;go_wp2;exact E
   ·have H:Hid (gM fs F=F.steps.all (jb fs F)):=Th T y A;have I:=jI z;have L:=jI J;have N:w1.cell? (jB fb (a+3))=some (jL (some (jB gs M)) (K+1) c):=by rw[z.cell (p:=(jB fb (a+3))) (fE k)];exact k
    rw[<-u.out]at N;have Y:Hid (nz<=c/\nz<=1000000):=by have:=u.out;exact⟨by omega,by omega⟩
    have Z:=Y.out.2;clear z J A C k P
    go_wp2_with fail
    go_loopw [56] (λv wr=>∃i:Nat,i<=nz/\v=jV i/\Hid (az w1 wr)/\Hid ((F.steps.take i).all (jb fs F)=true)) (λv _=>nz-(intOf v).toNat)
    case atStart=>exact⟨0,aQ _,rfl,aJ _ _,(by show _=_;simp)⟩
    case round=>
     obtain⟨i,S,rfl,V,Q⟩:=hrel;have U:Hid (nz=F.steps.length):=by show _=_;rw[u.out];exact x
     have f:=jI (I.trans (V.mono I.size));by_cases t:i<nz
     ·obtain⟨T,y⟩:∃s,F.steps[i]?=some s:=⟨F.steps[i]'(by rw[<-U.out];exact t),aI _⟩;have K:wr.cell? (jB fb (a+3))=some (jL (some (jB gs M)) nz c):=by rw[V.cell (p:=(jB fb (a+3))) (fE N)];exact N
      have k:(i:Int)<(nz:Int):=by omega
      have P:=jI (Ht wr fs fb a gs (M+i*10) w.heap.size d F T ((r.below f).st (o.below f) ((O i T y).below f) ⟨m,L.kept (V.block _ L.lt)⟩));have z:=jI y;have A:=Y.out.1;clear y N
      go_wp2_with(go_at_call 77;fail)
      refine P.mono ?_;rintro e C ⟨rfl,D⟩;have J:=jI D;clear D;cases l:jb fs F T with
      |true=>
       have Z:Hid ((F.steps.take (i+1)).all (jb fs F)=true):=by show _=_;rw[gI z.out,cZ,Q.out];simp[l]
       have S:=jI (V.trans (J.mono V.size));clear l;go_wp2;exact⟨⟨i+1,by omega,by go_num,S,Z⟩,by simp[intOf];omega⟩
      |false=>
       have E:=jI (B C false (f.trans (J.mono f.size)) (by rw[H.out,pS z.out l]));clear l;go_wp2;exact E
     ·have x:i=nz:=by omega
      have E:Hid (G (jR (.bool true)) wr):=B wr true f (by
       have:=Q.out;rw[x,cr (by rw[U.out];exact aD _)]at this;rw[H.out,this])
      subst x;go_wp2;exact E
end Go.Proofs.YtnfhpdbbfejioaaGreatDoor.Mid
namespace Go.Proofs.YtnfhpdbbfejioaaGreatDoor
open Go Go.RowKit
variable {P:Nat}{w w':jW}{t:Tr}{v:jU}
theorem xj:∀(l:List Bool)(i:Nat),l[i]?=some false->(l.set i true).count false+1=l.count false
 |[],i,h=>by simp at h
 |b::l,0,h=>by
  simp only[bD,bm]at h;subst h;simp
 |b::l,i+1,h=>by
  simp only[bL]at h;have:=xj l i h;simp only[List.set_cons_succ,List.count_cons];omega
theorem JB{l:Array Bool}{i:Nat}(h:l.getD i true=false):(l.setIfInBounds i true).toList.count false+1=l.toList.count false:=by
 have a:l.toList[i]?=some false:=by
  rw[Array.getElem?_toList];rcases bG i l.size with b|b
  ·rw[bY b];simp[Array.getD,b]at h;rw[h]
  ·simp[Array.getD,Nat.not_lt.2 b]at h
 rw[Array.toList_setIfInBounds];exact xj _ _ a
theorem lD{P:Program}{b:Region.Mode}{c:Array Oper}{Q:Exit->Act->jW->Prop}{S:jW->Prop}{I:Array Bool->Act->jW->Prop}{stop:Array Bool}{n:Nat}
  (d:stop.toList.count false=n)
  (f:∀g a w,I g a w->g≠stop->Region.ready b c g≠[]/\∀i∈Region.ready b c g,wpOp P c Q i (λj w'=>S w'/\I (g.setIfInBounds i true) j w') a w)
  (k:∀a w,I stop a w->wpAnyH P b c Q S n stop a w)
  (l:∀g a w,I g a w->g.toList.count false<=n->g=stop):
  ∀(fuel:Nat)(g:Array Bool)(a:Act)(w:jW),I g a w->g.toList.count false=fuel->n<=fuel->wpAnyH P b c Q S fuel g a w
 |0,g,a,w,m,hc,o=>by
  obtain rfl:n=0:=by omega
  obtain rfl:=l g a w m (by omega);exact k a w m
 |fuel+1,g,a,w,m,hc,o=>by
  by_cases p:g=stop
  ·subst p;have e:n=fuel+1:=by omega
   rw[<-e];exact k a w m
  ·obtain⟨h1,h2⟩:=f g a w m p;refine wpAnyH_all rfl h1 λi q=>wpOp_mono (λj w' h=>⟨h.1,?_⟩) (h2 i q);have r:=(mem_ready.1 q).1;have s:=JB r;refine lD d f k l fuel _ j w' h.2 (by omega) ?_;rcases bG fuel n with t|u
   ·exact absurd (l g a w m (by omega)) p
   ·exact u
theorem sx.kept(h:Ks w w'){a:Nat}{nm:By}(c:sx w a nm):sx w' a nm:=by
 obtain⟨b,o,h1,cs,h2,d⟩:=c;exact⟨b,o,h _ _ _ (by decide) (λe=>absurd e (by decide)) h1,cs,h _ _ _ (by decide) (λe=>absurd e (by decide)) h2,d⟩
theorem kL.row:∀(t:Tr)(j:jE),kL w P t j->Value.nilFunc∉j.toArray:=λt j h=>by
 unfold kL at h;split at h
 ·rename_i c _ a _ nm B v C el g;obtain⟨u,f,rfl,q,h⟩:=h;have:=kL.row g f q;simp only[List.mem_toArray,aY,not_or]at this⊢;refine⟨λe=>?_,this⟩;rcases h with⟨_,s,b,l,z,d,rfl,_⟩|⟨_,b,o,y,m,E,d,i,x,p,D,k,r,ts,A,rfl,_⟩|⟨_,b,o,n,d,m,i,p,k,ts,rfl,_⟩|⟨_,b,d,rfl,_⟩|⟨_,n,b,d,rfl,_⟩|⟨_,b,d,rfl,_⟩|⟨_,b,l,d,rfl,_⟩
  all_goals cases e
 ·subst h;simp
 ·exact h.elim
theorem kL.kept{P:Nat}(h1:Ks w w')(t:Tr)(us:jE)(h:kL w P t us):kL w' P t us:=by
 unfold kL at h;split at h
 ·rename_i c _ a _ nm ix v th el g;have I:=kL.kept h1 (P:=P) th;have O:=kL.kept h1 (P:=P) el;have U:=kL.kept h1 (P:=P) g;have k:∀(b:Nat)(v:jU)(t:TypeId),t≠60->v≠.nilFunc->w.heap[b]?=some (jC #[v] t)->w'.heap[b]?=some (jC #[v] t):=λb v t M Q C=>h1 _ _ _ M (λ_=>by simpa using λe=>Q e.symm) C;have F:∀(b:Nat)(t:Tr)(ts:jE),kL w P t ts->w.heap[b]?=some (.cells ts.toArray 67)->w'.heap[b]?=some (.cells ts.toArray 67):=λb t ts hc C=>h1 _ _ _ (by decide) (λ_=>kL.row t ts hc) C;have o:=λ(t:Tr)(v:jU)(h:gz w P t v)=>gz.kept h1 t v h;rw[kL];obtain⟨u,r,rfl,hr,h⟩:=h;refine⟨u,r,rfl,U _ hr,?_⟩;rcases h with⟨e,S,i,y,Z,l,f,j,d,m,n,K⟩|⟨e,i,B,Y,z,ve,l,p,V,E,pe,q,T,ts,es,f,j,d,m,n,s,D,H,G,x,J,s2,N,W,L⟩|⟨e,i,B,A,l,z,p,E,q,ts,f,j,d,m,n,s,D,H,G,x⟩|⟨e,i,l,f,j,d⟩|⟨e,A,i,l,f,j,d,m⟩|⟨e,i,l,f,j,d⟩|⟨e,i,y,l,f,j,d,m⟩
  ·exact .inl ⟨e,S,i,y,Z,l,f,k _ _ _ (by decide) n.isf j,k _ _ _ (by decide) K.isf d,m.kept h1,o _ _ n,o _ _ K⟩
  ·exact .inr (.inl ⟨e,i,B,Y,z,ve,l,p,V,E,pe,q,T,ts,es,f,k _ _ _ (by decide) n.isf j,k _ _ _ (by decide) (by rw[s];simp) d,k _ _ _ (by decide) (by rw[J];simp) m,o _ _ n,s,k _ _ _ (by decide) (by simp) D,F _ _ _ x H,k _ _ _ (by decide) (by simp) G,I _ x,J,k _ _ _ (by decide) (by simp) s2,F _ _ _ L N,k _ _ _ (by decide) (by simp) W,O _ L⟩)
  ·exact .inr (.inr (.inl ⟨e,i,B,A,l,z,p,E,q,ts,f,k _ _ _ (by decide) n.isf j,k _ _ _ (by decide) (by rw[s];simp) d,k _ _ _ (by decide) (by simp) m,o _ _ n,s,k _ _ _ (by decide) (by simp) D,F _ _ _ x H,k _ _ _ (by decide) (by simp) G,I _ x⟩))
  ·exact .inr (.inr (.inr (.inl ⟨e,i,l,f,k _ _ _ (by decide) d.isf j,o _ _ d⟩)))
  ·exact .inr (.inr (.inr (.inr (.inl ⟨e,A,i,l,f,k _ _ _ (by decide) (by simp) j,k _ _ _ (by decide) m.isf d,o _ _ m⟩))))
  ·exact .inr (.inr (.inr (.inr (.inr (.inl ⟨e,i,l,f,k _ _ _ (by decide) d.isf j,o _ _ d⟩)))))
  ·exact .inr (.inr (.inr (.inr (.inr (.inr ⟨e,i,y,l,f,k _ _ _ (by decide) m.isf j,d.kept h1,o _ _ m⟩)))))
 ·rw[kL];exact h
 ·exact h.elim
theorem pK.kept(h1:Ks w w')(h:pK w P t v):pK w' P t v:=by
 obtain⟨a,p,g,ts,e,h2,b,c,d⟩:=h;exact⟨a,p,g,ts,e,h1 _ _ _ (by decide) (λe=>absurd e (by decide)) h2,h1 _ _ _ (by decide) (λ_=>kL.row t ts d) b,h1 _ _ _ (by decide) (λe=>absurd e (by decide)) c,kL.kept h1 t ts d⟩
theorem kL.below{us:jE}(h:kL w P t us)(a:az w w'):kL w' P t us:=kL.kept (Ks.below a) t us h
theorem pK.below(h:pK w P t v)(a:az w w'):pK w' P t v:=h.kept (Ks.below a)
end Go.Proofs.YtnfhpdbbfejioaaGreatDoor
namespace Go.Proofs.YtnfhpdbbfejioaaGreatDoor.Mid
open Go Go.RowKit
variable {nm:By}{q:jO}{n c:Nat}
def iQ(L:List Mf)(nm:By):Option Mf:=L.find? (λF=>F.name==nm)
abbrev iC:By:=[109,97,105,110]
def mX(L:List Mf):Bool:=match iQ L iC with
 |some F=>F.params==0
 |none=>false
def t_(L:List Mf):Bool:=decide ((L.map (·.name)).Nodup)
def gy(L:List Mf):Bool:=decide (L.length<=12)&&(t_ L&&(mX L&&(L.all fe&&L.all (gM (iQ L)))))
theorem Cj:∀(L:List Mf)(j:Nat)(F:Mf),(L.map (·.name)).Nodup->L[j]?=some F->iQ L F.name=some F
 |[],j,F,_,h=>by simp at h
 |G::L,0,F,_,h=>by
  simp at h;subst h;simp[iQ]
 |G::L,j+1,F,a,h=>by
  simp only[bO,cj]at a;simp only[bL]at h;have b:(G.name==F.name)=false:=by
   rw[cE];intro e;have e:G.name=F.name:=by simpa using e
   exact a.1 (aT.2 ⟨F,aM h,e.symm⟩)
  unfold iQ;rw[bX,b];exact Cj L j F a.2 h
theorem Hr{L:List Mf}(h:∀(j:Nat)(F:Mf),L[j]?=some F->F.name≠nm):iQ L nm=none:=by
 unfold iQ;rw[List.find?_eq_none];intro F a e;obtain⟨j,b⟩:=a7 a;exact h j F b (by simpa using e)
theorem My.nodup{L:List Mf}{f:Lit->Option jU}(h:My L q L.length f n)(a:n=L.length):(L.map (·.name)).Nodup:=by
 have:=h.eq.1 a
 rwa[cx]at this
theorem My.get{L:List Mf}{q:Option Addr}{f:Lit->Option Value}(h:My L q L.length f n)(a:n=L.length)(nm:By):(f (.string nm)=none/\iQ L nm=none)\/∃g p j F,q=some (jB g p)/\L[j]?=some F/\F.name=nm/\f (.string nm)=some (.pointer (some (jB g (p+j*4))))/\iQ L nm=some F:=by
 cases b:f (.string nm) with
 |none=>exact .inl ⟨rfl,Hr λj F c=>h.no nm b j F (aK.1 c).1 c⟩
 |some v=>
  obtain⟨g,p,j,F,d,e,i,k,l⟩:=h.yes nm v b;refine .inr ⟨g,p,j,F,d,i,k,by rw[l],?_⟩;rw[<-k];exact Cj L j F (h.nodup a) i
theorem P8{w:jW}{cb:Nat}{L:List Mf}{nb:Nat}{f:Lit->Option jU}(h:gN w cb q c L)(a:Mp 9 w nb f n)(b:My L q L.length f n)(d:n=L.length)(i:L.all fe=true):EC w (iQ L) nb:=by
 refine⟨f,n,a,λnm=>?_⟩;rcases b.get d nm with h1|⟨g,p,j,F,k,l,m,o,r⟩
 ·exact .inl h1
 ·refine .inr ⟨g,p+j*4,F,o,r,?_,bz.1 i F (aM l)⟩;rcases h.fn with h2|⟨g',s,e,h2⟩
  ·rw[h2]at l;simp at l
  ·rw[k]at e;injection e with e;injection e with e1 e2;subst e1 e2;exact h2 j F l
theorem Uh{L:List Mf}(h:¬L.length<=12):gy L=false:=by unfold gy;rw[decide_eq_false h];rfl
theorem Ui{L:List Mf}(h:¬(L.map (·.name)).Nodup):gy L=false:=by unfold gy t_;rw[decide_eq_false h];simp
theorem Sr{L:List Mf}(h:mX L=false):gy L=false:=by unfold gy;rw[h];simp
theorem Uj{L:List Mf}(h:L.all fe=false):gy L=false:=by unfold gy;rw[h];simp
theorem Uk{L:List Mf}(h1:L.length<=12)(h2:(L.map (·.name)).Nodup)(a:mX L=true)(b:L.all fe=true):gy L=L.all (gM (iQ L)):=by unfold gy t_;rw[decide_eq_true h1,decide_eq_true h2,a,b];simp
theorem rk(w:jW)(cb:Nat)(q:jO)(c:Nat)(L:List Mf)(h:gN w cb q c L)(hfm:AR w)(hmk:zq w):aA 22 #[ptr cb] w (BF (gy L) w):=by
 have k0:=h.c0;have HA:Hid (gN w cb q c L):=h;have HEn:Hid (AR w/\zq w):=⟨hfm,hmk⟩;obtain⟨n,hn⟩:=aB L.length;have HN:Hid (n=L.length):=hn;have hn6:n<=1000000:=by rw[hn];exact h.le.2
 rw[<-hn]at k0;generalize hG:BF (gy L) w=G;have HG:Hid (BF (gy L) w=G):=hG;have HFin:Hid (∀W b,az w W->gy L=b->G (jR (.bool b)) W):=λW b hb hb2=>by rw[<-HG.out,hb2];exact⟨rfl,hb⟩
 clear h hn hG hfm hmk;by_cases h1:12<n
 ·have HX:Hid (G (jR (.bool false)) w):=HFin.out w false (aJ _ _) (Uh (by rw[<-HN.out];omega));have t1:decide ((12:Int)<(n:Int))=true:=decide_eq_true (by omega);go_enter Tryz.func22,Tryz.ntmps22;go_wp2;exact HX.out
 have t1:decide ((12:Int)<(n:Int))=false:=decide_eq_false (by omega);have H12:Hid (L.length<=12):=by show _<=_;rw[<-HN.out];omega
 have HBy:Hid (aA 45 #[ptr cb] w (ST L q w)):=sM w cb q c L HA.out;clear h1;go_enter Tryz.func22,Tryz.ntmps22
 go_wp2_with(go_at_call 45;fail)
 refine HBy.out.mono ?_;rintro e w1 ⟨f,m,rfl,hb1,hmp,hby⟩;have HB1:Hid (az w w1):=hb1;have HMp:Hid (Mp 9 w1 w.heap.size f m):=hmp;have HBi:Hid (My L q L.length f m):=hby
 have HA1:Hid (gN w1 cb q c L):=HA.out.below hb1;have k1:w1.cell? (jA cb)=some (jL q n c):=by rw[hb1.cell (p:=(jA cb)) (fE k0)];exact k0
 have lk:=hmp.look IM uT (Af w1) (rI ⟨#[109,97,105,110]⟩ (by decide));have hln:∀ty,(Builtin.len_ #[107] ty #[.map (some w.heap.size)]).run Tryz.prog w1.drew= .ok (jV (m:Int)) w1.drew:=λty=>(hmp.kept (show w1.drew.heap[w.heap.size]?=w1.heap[w.heap.size]? from rfl)).len uT ty;have hm1:m<=n:=by rw[HN.out];exact hby.le
 clear hb1 hmp hby k0;by_cases hmn:m<n
 ·have HX:Hid (G (jR (.bool false)) w1.drew):=HFin.out w1.drew false HB1.out.drew (Ui (λhnd=>by
   have h1:=HBi.out.eq.2 (by rw[cx];exact hnd);have h2:=HN.out;omega))
  have t2:decide ((m:Int)<(n:Int))=true:=decide_eq_true (by omega);obtain⟨mv,hmv⟩:=aB ((f (Lit.string [109,97,105,110])).getD (jQ none));have lk':(Instr.lookup 107 (.map (some w.heap.size)) (jT ⟨#[109,97,105,110]⟩) false).run Tryz.prog w1= .ok mv w1:=by rw[hmv];exact lk
  clear lk hmv
  go_wp2_with fail
  go_region;go_wp2;exact HX.out
 have hmn2:m=n:=by omega
 have HMN:Hid (m=L.length):=by show _=_;rw[hmn2];exact HN.out
 subst hmn2;have t2:decide ((m:Int)<(m:Int))=false:=decide_eq_false (by omega);rcases HBi.out.get HMN.out iC with⟨a1,a2⟩|⟨g,p,j,F,rfl,a2,a3,a4,a5⟩
 ·have HX:Hid (G (jR (.bool false)) w1.drew):=HFin.out w1.drew false HB1.out.drew (Sr (by unfold mX;rw[a2]));have lk':(Instr.lookup 107 (.map (some w.heap.size)) (jT ⟨#[109,97,105,110]⟩) false).run Tryz.prog w1= .ok (jQ none) w1:=by rw[lk];show Result.ok ((f (Lit.string iC)).getD (jQ none)) w1=_;rw[a1];rfl
  clear lk a1 a2 hmn
  go_wp2_with fail
  go_region;go_wp2;exact HX.out
 have lk':(Instr.lookup 107 (.map (some w.heap.size)) (jT ⟨#[109,97,105,110]⟩) false).run Tryz.prog w1= .ok (jQ (some (jB g (p+j*4)))) w1:=by rw[lk];show Result.ok ((f (Lit.string iC)).getD (jQ none)) w1=_;rw[a4];rfl
 have HFn:Hid (∀j F,L[j]?=some F->eX w1 g (p+j*4) F):=by
  rcases HA1.out.fn with h2|⟨g',p',e,h2⟩
  ·rw[h2]at a2;simp at a2
  ·injection e with e;injection e with e1 e2;subst e1 e2;exact h2
 have hpa:=(HFn.out j F a2).c1;obtain⟨pa,hpa2⟩:∃pa,F.params=pa:=⟨_,rfl⟩;rw[hpa2]at hpa;have hpa':w1.drew.cell? (jB g (p+j*4+1))=some (jV pa):=hpa;have k1':w1.drew.cell? (jA cb)=some (jL (some (jB g p)) m c):=k1;have HMo:Hid (mX L=(pa==0)):=by show _=_;unfold mX;rw[a5,<-hpa2]
 clear lk a2 a3 a4 a5 hmn hpa2;by_cases h0:pa=0
 rotate_left
 ·have HX:Hid (G (jR (.bool false)) w1.drew):=HFin.out w1.drew false HB1.out.drew (Sr (by rw[HMo.out];simpa using h0));have t3:(pa !=0)=true:=by simpa using h0
  clear h0
  go_wp2_with fail
  go_region;go_wp2;exact HX.out
 subst h0;have HM2:Hid (mX L=true):=by show _=_;rw[HMo.out];rfl
 go_wp2_with fail
 go_region
 go_wp2_with fail
 clear hln lk' hpa hpa' k1;have k2:w1.drew.cell? (jA cb)=some (jL (some (jB g p)) m c):=k1';obtain⟨w2,hw2⟩:=aB w1.drew;have HB2:Hid (az w w2):=by rw[hw2];exact HB1.out.drew
 have HF2:Hid (∀j F,L[j]?=some F->eX w2 g (p+j*4) F):=λj F h=>by rw[hw2];exact(HFn.out j F h).below (aJ _ _).drew
 have HM3:Hid (Mp 9 w2 w.heap.size f m):=by rw[hw2];exact HMp.out.kept rfl
 have HA2:Hid (gN w2 cb (some (jB g p)) c L):=by rw[hw2];exact HA1.out.below (aJ _ _).drew
 rw[<-hw2]at k2⊢;clear hw2 k1' HB1 HFn HMp HA1;have hcc:m<=c:=by have:=HA2.out.le.1;have:=HMN.out;omega
 go_loopw [45] (λv wr=>∃i:Nat,i<=m/\v=jV i/\Hid (az w2 wr)/\Hid ((L.take i).all fe=true)) (λv _=>m-(intOf v).toNat)
 case atStart=>exact⟨0,aQ _,rfl,aJ _ _,(by show _=_;simp)⟩
 case round=>
  obtain⟨i,hin,rfl,HBr,HAll⟩:=hrel;have HBw:Hid (az w wr):=HB2.out.trans (HBr.out.mono HB2.out.size);have kr:wr.cell? (jA cb)=some (jL (some (jB g p)) m c):=by rw[HBr.out.cell (p:=(jA cb)) (fE k2)];exact k2
  by_cases hlt2:i<m
  ·obtain⟨F2,hF2⟩:∃F,L[i]?=some F:=⟨L[i]'(by rw[<-HMN.out];exact hlt2),aI _⟩;have HC:Hid (aA 46 #[jQ (some (jB g (p+i*4)))] wr (BF (fe F2) wr)):=pj wr g (p+i*4) F2 ((HF2.out i F2 hF2).below HBr.out);have HS2:Hid (L[i]?=some F2):=hF2;have hl9:(i:Int)<(m:Int):=by omega
   clear hF2
   go_wp2_with(go_at_call 46;fail)
   refine HC.out.mono ?_;rintro e w3 ⟨rfl,hb3⟩;have HB3:Hid (az wr w3):=hb3;clear hb3;cases hst:fe F2 with
   |true=>
    have HA2:Hid ((L.take (i+1)).all fe=true):=by show _=_;rw[gI HS2.out,cZ,HAll.out];simp[hst]
    have HB4:Hid (az w2 w3):=HBr.out.trans (HB3.out.mono HBr.out.size);clear hst;go_wp2;exact⟨⟨i+1,by omega,by go_num,HB4,HA2⟩,by simp[intOf];omega⟩
   |false=>
    have HX:Hid (G (jR (.bool false)) w3):=HFin.out w3 false (HBw.out.trans (HB3.out.mono HBw.out.size)) (Uj (pS HS2.out hst));clear hst;go_wp2;exact HX.out
  ·have hin2:i=m:=by omega
   have HPl:Hid (L.all fe=true):=by
    have:=HAll.out
    rwa[hin2,cr (by rw[HMN.out];exact aD _)]at this
   have HRv:Hid (gy L=L.all (gM (iQ L))):=Uk H12.out (HBi.out.nodup HMN.out) HM2.out HPl.out;subst hin2;have HA3:Hid (gN wr cb (some (jB g p)) c L):=HA2.out.below HBr.out;have HRt:Hid (NW wr (iQ L) w.heap.size):=⟨HEn.out.1.below HBw.out,HEn.out.2.below HBw.out,P8 HA3.out (HM3.out.kept (HBr.out.block _ HM3.out.lt)) HBi.out HMN.out HPl.out⟩;obtain⟨w5,hw5⟩:=aB wr;rw[<-hw5]at kr HBw HBr HA3 HRt⊢;have HF5:Hid (∀j F,L[j]?=some F->eX w5 g (p+j*4) F):=λj F h=>(HF2.out j F h).below HBr.out;clear hw5
   go_wp2_with fail
   go_loopw [62] (λv wr=>∃i2:Nat,i2<=i/\v=jV i2/\Hid (az w5 wr)/\Hid ((L.take i2).all (gM (iQ L))=true)) (λv _=>i-(intOf v).toNat)
   case atStart=>exact⟨0,aQ _,rfl,aJ _ _,(by show _=_;simp)⟩
   case round=>
    obtain⟨i2,hin2,rfl,HBs,HAl2⟩:=hrel;obtain⟨w6,hw6⟩:=aB wr;rw[<-hw6]at HBs⊢;clear hw6;have HBx:Hid (az w w6):=HBw.out.trans (HBs.out.mono HBw.out.size);have ks:w6.cell? (jA cb)=some (jL (some (jB g p)) i c):=by rw[HBs.out.cell (p:=(jA cb)) (fE kr)];exact kr
    by_cases hlt3:i2<i
    ·obtain⟨F2,hF2⟩:∃F,L[i2]?=some F:=⟨L[i2]'(by rw[<-HMN.out];exact hlt3),aI _⟩;have HC:Hid (aA 47 #[jQ (some (jB g (p+i2*4))),.map (some w.heap.size)] w6 (BF (gM (iQ L) F2) w6)):=CF w6 (iQ L) g (p+i2*4) w.heap.size F2 ((HF5.out i2 F2 hF2).below HBs.out) (HRt.out.below HBs.out);have HS2:Hid (L[i2]?=some F2):=hF2;have hl9:(i2:Int)<(i:Int):=by omega
     clear hF2
     go_wp2_with(go_at_call 47;fail)
     refine HC.out.mono ?_;rintro e w7 ⟨rfl,hb7⟩;have HB7:Hid (az w6 w7):=hb7;clear hb7;cases hst:gM (iQ L) F2 with
     |true=>
      have HA2:Hid ((L.take (i2+1)).all (gM (iQ L))=true):=by show _=_;rw[gI HS2.out,cZ,HAl2.out];simp[hst]
      have HB4:Hid (az w5 w7):=HBs.out.trans (HB7.out.mono HBs.out.size);clear hst;go_wp2;exact⟨⟨i2+1,by omega,by go_num,HB4,HA2⟩,by simp[intOf];omega⟩
     |false=>
      have HX:Hid (G (jR (.bool false)) w7):=HFin.out w7 false (HBx.out.trans (HB7.out.mono HBx.out.size)) (by rw[HRv.out,pS HS2.out hst]);clear hst;go_wp2;exact HX.out
    ·have hin3:i2=i:=by omega
     have HX:Hid (G (jR (.bool true)) w6):=HFin.out w6 true HBx.out (by
      have:=HAl2.out;rw[hin3,cr (by rw[HMN.out];exact aD _)]at this;rw[HRv.out,this])
     subst hin3;go_wp2;exact HX.out
theorem Ni:Tryz.prog.underlying 112=some (.map 9 120):=Tryz.underlying112
theorem Qn(w:jW):(zeroValue 120).run Tryz.prog w= .ok (.agg #[jQ none,.map none]) w:=by kernel_rfl
def Rdy(L:List Mf)(g p:Nat)(wr:World)(a:Nat)(left:Lit->Bool)(f:Lit->Option Value):Prop:=
 ∀nm F,left (.string nm)=false->iQ L nm=some F->∃j b k,L[j]?=some F/\f (.string nm)=some (Iy g (p+j*4) b)/\Mp 3 wr b (n_ F.steps) k/\a<b
structure S5 (L:List Mf) (g p:Nat) (w wr:jW) (R r:Nat) (left:Lit->Bool) (cnt:Nat):Prop where
 bel:az w wr
 mp:∃f m,Mp 9 wr R f m/\m+cnt<=L.length/\Rdy L g p wr r left f
def UJ(L:List Mf)(g p:Nat)(w:World)(e:Ending)(w':World):Prop:=∃f m,e= .returned (.map (some w.heap.size))/\az w w'/\Mp 9 w' w.heap.size f m/\∀nm F,iQ L nm=some F->∃j a k,L[j]?=some F/\f (.string nm)=some (Iy g (p+j*4) a)/\Mp 3 w' a (n_ F.steps) k
theorem UK(a:jU)(b:Lit)(h:keyOf Tryz.prog 9 a=some b):∃x:ByteArray,a=jT x:=by
 cases a<;>simp[keyOf,Tryz.underlying9,mapKey]at h
 exact⟨_,rfl⟩
theorem SE{x:ByteArray}{a:Lit}(h:keyOf Tryz.prog 9 (.string x)=some a):a= .string x.data.toList:=by
 simp[keyOf,Tryz.underlying9,mapKey]at h;exact h.2.symm
theorem SF(v:jU)(y:DataW jU×List MemPlace)(h:Rv v=some y):∃c:jU,v=(λv=>v) c:=⟨v,rfl⟩
theorem LK{L:List Mf}{g p:Nat}{w wr w1 a:World}{R r:Nat}{left:Lit->Bool}{d:Nat}{F:Mf}{j k:Nat}(h:S5 L g p w wr R r left c)(i:R=w.heap.size)(l:R<r)(n:r<wr.heap.size)(o:wr.grownBy w1 (some r))(q:w1.heap.size=wr.heap.size)(s:az w1 a)(t:iQ L nm=some F)(u:L[j]?=some F)(v:nm.length<=9223372036854775807)(x:L.length<=12)(hc:d<c)
  (A:Mp 3 a w1.heap.size (n_ F.steps) k):
  ∃B,(Instr.mapUpdate 112 (.map (some R)) (.string ⟨nm.toArray⟩) (Iy g (p+j*4) w1.heap.size)).run Tryz.prog a= .ok () B/\S5 L g p w B R r (λz=>left z&& !z.sameKey (.string nm)) d/\a.grownBy B (some R):=by
 obtain⟨f,m,h1,h2,C⟩:=h.mp;have D:=h1.lt;have E:Mp 9 a R f m:=(h1.kept (o.block R D (by simp;omega))).kept (s.block R (by omega));have hk:keyOf Tryz.prog 9 (.string ⟨nm.toArray⟩)=some (.string nm):=by
  have:=rI ⟨nm.toArray⟩ (by simpa[ByteArray.size] using v);simpa using this
 let G:Lit->Option Value:=λy=>match y with
  | .string H=>if H=nm then some (Iy g (p+j*4) w1.heap.size) else f (.string H)
  |y=>f y
 obtain⟨B,I,J,K⟩:=E.put IM Ni (by omega) hk trivial (Iy g (p+j*4) w1.heap.size) (g:=G) (by simp[G]) (λy M=>by
   cases y with
   |string H=>
    have:H≠nm:=λe=>M (by rw[e]);simp[G,this]
   |_=>rfl)
 have N:az w w1:=⟨o.os.trans h.bel.os,o.tape.trans h.bel.tape,o.output.trans h.bel.output,aP h.bel.size o.size,λb s=>by rw[o.block b (aO s h.bel.size) (by simp;omega)];exact h.bel.block b s⟩;refine⟨B,I,⟨?_,G,_,J,by split<;>omega,?_⟩,K⟩
 ·exact(N.trans (s.mono N.size)).grown K (aP N.size s.size) (λk e=>by injection e with e;omega)
 ·intro H O P Q;have S:∀T,r<T->T<a.heap.size->B.heap[T]?=a.heap[T]?:=λT h1 h2=>K.block T h2 (by simp;omega);by_cases e:H=nm
  ·subst e;rw[t]at Q;injection Q with Q;subst Q;exact⟨j,w1.heap.size,k,u,by simp[G],A.kept (S _ (by omega) A.lt),by omega⟩
  ·have U:left (.string H)=false:=by
    have V:(Lit.string H).sameKey (.string nm)=false:=Maps.sameKey_ne (λW=>e (by injection W));have P:(left (.string H)&& !(Lit.string H).sameKey (.string nm))=false:=P;rw[V]at P;simpa using P
   obtain⟨Y,T,Z,i,l,n,q⟩:=C H O U Q;have c:=n.lt;refine⟨Y,T,Z,i,by simp[G,e,l],?_,q⟩;have x:w1.heap[T]?=wr.heap[T]?:=o.block T c (by simp;omega);have d:=s.block T (by omega);exact((n.kept x).kept d).kept (S T q (by have:=s.size;omega))
theorem wD(w:World)(cb g p c:Nat)(L:List Mf)(h:gN w cb (some ⟨g,p,none⟩) c L)(hn:(L.map (·.name)).Nodup)(hL:L.length<=12)(J:∀F∈L,gB F.steps):aA 48 #[ptr cb] w (UJ L g p w):=by
 have k0:=h.c0;have HA:=jI h;obtain⟨n,H⟩:=aB L.length;have HN:=jI H;have C3:n<=12:=by rw[H];exact hL
 rw[<-H]at k0;have C0:∀W:World,(Instr.makeMap 112 (some (.int .i64 (n:Int)))).run Tryz.prog W= .ok (.map (some W.heap.size)) (W.alloc (.map #[] 0)):=λW=>by simp[Instr.makeMap,go_sem]
 generalize hG:UJ L g p w=G;obtain⟨HG,B9,A9,A3⟩:=j4 hG J hn hL;have C1:Hid (aA 45 #[ptr cb] (w.alloc (.map #[] 0)) (ST L (some ⟨g,p,none⟩) (w.alloc (.map #[] 0)))):=sM _ cb _ c L (h.below (ip _ _));clear hG h H hn hL J;go_enter Tryz.func48,Tryz.ntmps48
 go_wp2_with(go_at_call 45;fail)
 refine C1.mono ?_;rintro e w1 ⟨f,m,rfl,C,V,Y⟩;have T:(w.alloc (.map #[] 0)).heap.size=w.heap.size+1:=by simp
 rw[T]at V;change Below _ _ _ at C;rw[T]at C;have A5:=jI Y;have Q:Hid (m=L.length):=by
  show _=_;exact Y.eq.2 (by rw[cx];exact A9.out)
 have a:Hid (az w w1/\w.heap.size+1<w1.heap.size/\Mp 9 w1 w.heap.size (λ_=>none) 0):=⟨(ip w (.map #[] 0)).trans (C.mono (by omega)),V.lt,(Mp.made 9 w).kept (C.block _ (by omega))⟩;obtain⟨D,M,A7,A2⟩:=V;have HD:=jI A2;have B3:=jI A7;clear C Y A2 A7 C0 k0;have hq:=T;rw[hq];clear hq T
 go_wp2_with(first
  |(at_range;refine wpList_range_own _ rfl _ 107 rfl 9 109 IM uT _ (w.heap.size+1) m D rfl M ?_;intro w0 O d B6)
  |go_in)
 go_frame
 obtain⟨r,hr⟩:=aB w1.heap.size;rw[<-hr]at O⊢;have HR:Hid (w.heap.size+1<r):=by show _<_;rw[hr];exact a.out.2.1
 have B1:Hid (S5 L g p w w0 w.heap.size r (Maps.has D) (Maps.size D)):=by
  refine⟨?_,λ_=>none,0,a.out.2.2.kept (d.block _ a.out.2.2.lt (by simp)),by rw[B3.out,Q.out];omega,?_⟩
  ·exact⟨d.os.trans a.out.1.os,d.tape.trans a.out.1.tape,d.output.trans a.out.1.output,aP a.out.1.size d.size,λb hb=>by rw[d.block b (aO hb a.out.1.size) (by simp)];exact a.out.1.block b hb⟩
  ·intro nm F hl hF;rw[(HD.out _).2]at hl;rcases A5.get Q.out nm with⟨_,s⟩|⟨_,_,_,_,_,_,_,a4,_⟩
   ·rw[s]at hF;cases hF
   ·rw[a4]at hl;cases hl
 clear d B6 M hr
 go_loopw [17] (λ_ wr=>∃(left:Lit->Bool)(q:Nat),wr.ranges Tryz.prog 9 Rv (w.heap.size+1) r m D left q/\Hid (S5 L g p w wr w.heap.size r left q)) (λ_ wr=>wr.rangeLeft (w.heap.size+1) r)
 case atStart=>exact⟨_,_,O,B1⟩
 case round=>
  obtain⟨left,q,u,A⟩:=hrel
  go_wp2_with(first
   |(at_next;refine wpList_next_ranges _ rfl _ rfl 9 IM Rv (λy=>Value.string y) (λv=>v) UK SF (w.heap.size+1) r m D left q rfl u ?_ ?_)
   |go_in)
  ·intro B5 A0;have HX:Hid (G (.returned (.map (some w.heap.size))) wr):=by
    show G _ _;rw[<-HG.out];obtain⟨f',m',a1,_,a3⟩:=A.mp;refine⟨f',m',rfl,A.bel,a1,λnm F hF=>?_⟩;obtain⟨j,mb,k,E,b2,b3,_⟩:=a3 nm F (A0 _) hF;exact⟨j,mb,k,E,b2,b3⟩
   clear u B5 A0;go_wp2;exact HX.out
  ·intro x v kl y1 y2 w2 t I B4 S A1 N Z o A6 C5;have B2:=SE I;subst B2;obtain⟨j,F,s,a3,a5,rfl⟩:∃j F,L[j]?=some F/\F.name=x.data.toList/\iQ L x.data.toList=some F/\v= .pointer (some ⟨g,p+j*4,none⟩):=by
    have P:∀z,(f (.string x.data.toList)).getD z=v:=λz=>by
     have h1:=(HD.out (.string x.data.toList)).1 z;rw[A1]at h1;have h2:y1= .held v:=by
      unfold Rv at S;injection S with S;injection S with S _;exact S.symm
     rw[h2]at h1;injection h1 with h1;exact h1.symm
    rcases A5.get Q.out x.data.toList with⟨E,_⟩|⟨g',p',j,F,E,b2,b3,b4,b5⟩
    ·have h1:=P (.int .i64 0);have h2:=P (.int .i64 1);rw[E]at h1 h2;rw[<-h2]at h1;have h1:=h1;injection h1 with _ h1;cases h1
    ·injection E with E;injection E with E b1';subst E b1';refine⟨j,F,b2,b3,b5,?_⟩;rw[<-P (.int .i64 0),b4];rfl
   have U:eX w2 g (p+j*4) F:=by
    have hw:eX wr g (p+j*4) F:=by
     rcases HA.fn with h2|⟨g',p',e,h2⟩
     ·rw[h2]at s;simp at s
     ·injection e with e;injection e with P e2;subst P e2;exact(h2 j F s).below A.bel
    have C2:az w w2:=⟨o.os.trans A.bel.os,o.tape.trans A.bel.tape,o.output.trans A.bel.output,aP A.bel.size o.size,λb hb=>by rw[o.block b (aO hb A.bel.size) (by have:=HR.out;simp;omega)];exact A.bel.block b hb⟩;rcases HA.fn with h2|⟨g',p',e,h2⟩
    ·rw[h2]at s;simp at s
    ·injection e with e;injection e with P e2;subst P e2;exact(h2 j F s).below C2
   have HC:=jI (tZ w2 g (p+j*4) F U);have A8:Hid (gB F.steps):=B9.out F (aM s);have B:Hid (L[j]?=some F/\iQ L x.data.toList=some F/\wr.grownBy w2 (some r)/\w2.heap.size=wr.heap.size/\t<q/\r<wr.heap.size/\x.data.toList.length<=9223372036854775807/\wr.rangeLeft (w.heap.size+1) r=q/\w2.ranges Tryz.prog 9 Rv (w.heap.size+1) r m D (λz=>left z&& !z.sameKey (.string x.data.toList)) t):=⟨s,a5,o,A6,Z,u.lt,by rw[<-a3];exact U.i2.1,u.left_eq,N⟩;clear s a3 a5 U I B4 S A1 N Z o A6 u
   go_wp2_with(go_at_call 76;fail)
   refine HC.mono ?_;rintro e w3 ⟨l,⟨_,rfl,k,_,K⟩|⟨B7,_⟩⟩
   rotate_left
   ·exact absurd A8.out B7
   obtain⟨w9,q1,q2,q3⟩:=LK A.out rfl (by have:=HR.out;omega) B.out.2.2.2.2.2.1 B.out.2.2.1 B.out.2.2.2.1 l B.out.2.1 B.out.1 B.out.2.2.2.2.2.2.1 A3.out B.out.2.2.2.2.1 K;have C4:=q1;have B0:=jI q2;have A4:Hid (w9.ranges Tryz.prog 9 Rv (w.heap.size+1) r m D (λz=>left z&& !z.sameKey (.string x.data.toList)) t):=by
    have h1:=B.out.2.2.2.2.2.2.2.2;have B8:w2.grownBy w3 none:=⟨l.os,l.tape,l.output,l.size,λi hi _=>l.block i hi⟩;exact(h1.kept B8 (by simp) (by simp)).kept q3 (by simp) (by have:=HR.out;simp;omega)
   clear q1 q2 q3 l K;go_wp2;refine⟨⟨_,_,A4.out,B0⟩,?_⟩
   rw[A4.left_eq,B.out.2.2.2.2.2.2.2.1];exact B.out.2.2.2.2.1
def jF(L:List Mf):Nat:=(L.map (λF=>F.steps.length)).sum
theorem zo(L:List Mf)(F:Mf):jF (L++[F])=jF L+F.steps.length:=by simp[jF]
theorem xe:∀(L:List Mf),(∀F∈L,F.steps.length<=1000000)->jF L<=L.length*1000000
 |[],_=>by simp[jF]
 |F::L,h=>by
  have h1:=xe L (λG a=>h G (by simp[a]));have h2:=h F (by simp);simp only[jF,bO,List.sum_cons,aZ]at h1⊢;omega
def Te(n:Nat)(w:jW)(e:Ending)(w':jW):Prop:=e=jR (jV (n:Int))/\az w w'
theorem CE(w:jW)(cb:Nat)(q:jO)(c:Nat)(L:List Mf)(h:gN w cb q c L):aA 23 #[ptr cb] w (Te (jF L) w):=by
 have a:=h.c0;have b:=jI h;obtain⟨n,d⟩:=aB L.length;have e:=jI d;have f:n<=1000000:=by rw[d];exact h.le.2
 rw[<-d]at a;have k:Hid (∀i,i<=n->jF (L.take i)<=i*1000000):=λi l=>by
  have:=xe (L.take i) (λF m=>by
   have o:=List.mem_of_mem_take m;obtain⟨j,r⟩:=a7 o;rcases b.fn with h2|⟨g,p,_,h2⟩
   ·rw[h2]at r;simp at r
   ·exact(h2 j F r).i2.2.2)
  rw[dO]at this;have t:min i L.length<=i:=Nat.min_le_left _ _;exact aP this (dA _ t)
 generalize u:Te (jF L) w=G;have x:=jI u;clear h d u;go_enter Tryz.func23,Tryz.ntmps23
 go_wp2_with fail
 go_loopw [3,13] (λz v wr=>∃i s:Nat,i<=n/\z=jV (s:Int)/\v=jV i/\Hid (s=jF (L.take i))/\Hid (az w wr)) (λ_ v _=>n-(intOf v).toNat)
 case atStart=>exact⟨0,0,aQ _,rfl,rfl,rfl,aJ _ _⟩
 case round=>
  obtain⟨i,s,A,rfl,rfl,B,C⟩:=hrel;have D:s<=1000000000000:=by have h1:=k i A;have h2:=B.out;omega
  by_cases E:i<n
  ·obtain⟨F,m⟩:∃F,L[i]?=some F:=⟨L[i]'(by rw[<-e.out];exact E),aI _⟩;obtain⟨g,p,rfl,H⟩:∃g p,q=some (jB g p)/\∀j F,L[j]?=some F->eX w g (p+j*4) F:=by
    rcases b.fn with h|h
    ·rw[h]at m;simp at m
    ·exact h
   have I:=(H i F m).below C;have J:=I.c0;have K:=I.c1;obtain⟨M,N,O,P,rfl,_⟩:=I.c2;obtain⟨Q,cs,S,_,_⟩:=I.c3;obtain⟨ns,T⟩:=aB F.steps.length;obtain⟨nt,U⟩:=aB F.types.length;obtain⟨y,V⟩:∃y:ByteArray,y=⟨F.name.toArray⟩:=⟨_,rfl⟩;obtain⟨W,Y⟩:=aB F.params;rw[<-T]at S;rw[<-U]at N;rw[<-V]at J;rw[<-Y]at K;have Z:ns<=1000000:=by rw[T];exact I.i2.2.2
   have a:Hid (s+ns=jF (L.take (i+1))):=by show _=_;rw[gI m,zo,<-B.out,T]
   have f:Hid (az w (wr.alloc (jC #[jT y,jV W,jL O nt P,jL Q ns cs] 103))):=C.trans ((ip _ _).mono C.size);have l:(i:Int)<(n:Int):=by omega
   clear m H I T U V Y;go_wp2;exact⟨⟨i+1,s+ns,by omega,by go_num,by go_num,a,f⟩,by simp[intOf];omega⟩
  ·have o:i=n:=by omega
   subst o;have r:Hid (G (jR (jV (s:Int))) wr):=by
    show G _ _;rw[<-x.out,B.out,e.out,cx];exact⟨rfl,C⟩
   go_wp2;exact r
end Go.Proofs.YtnfhpdbbfejioaaGreatDoor.Mid
