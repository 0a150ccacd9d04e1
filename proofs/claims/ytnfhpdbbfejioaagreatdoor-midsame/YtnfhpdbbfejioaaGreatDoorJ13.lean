/- PB PK NL -/
import Derived.Test.YtnfhpdbbfejioaaGreatDoorJ11
import Derived.Test.YtnfhpdbbfejioaaGreatDoorJ12
set_option linter.unusedVariables false
set_option linter.unusedSimpArgs false
set_option maxRecDepth 100000
set_option maxHeartbeats 16000000
namespace Go.Proofs.YtnfhpdbbfejioaaGreatDoor.Mid
open Go Go.RowKit
def Sx(w:jW)(a b:jU)(f:Mf):Prop:=
 qO w a f.types/\(∃q c,b=jL q f.steps.length c/\f.steps.length<=c/\(f.steps=[]\/∃g p,q=some (jB g p)/\∀j s,f.steps[j]?=some s->g8 w g (p+j*10) s))/\f.types.length<=1000000/\f.steps.length<=1000000
theorem Sx.below{w w':jW}{a b:jU}{f:Mf}(h:Sx w a b f)(d:az w w'):Sx w' a b f:=by
 obtain⟨h1,⟨q,c,h2,i,k⟩,l⟩:=h;refine⟨h1.below d,⟨q,c,h2,i,?_⟩,l⟩;rcases k with k|⟨g,p,e,k⟩
 ·exact .inl k
 ·exact .inr ⟨g,p,e,λj s m=>(k j s m).below d⟩
theorem qB{x:Int}(h:kh x=true):qN x:=by
 unfold kh at h;simp only[bo,decide_eq_true_eq]at h;exact h
theorem Sy{s:Ms}(h:yc s=true):(qN s.code/\qN s.dst/\qN s.a/\qN s.b/\qN s.c/\qN s.n/\qN s.label)/\(s.op.length<=1000/\s.name.length<=1000)/\s.args.length<=100000/\∀x∈s.args,qN x:=by
 unfold yc at h;simp only[bo,decide_eq_true_eq,bz]at h;obtain⟨⟨⟨⟨⟨⟨⟨⟨⟨⟨d,e⟩,f⟩,g⟩,i⟩,j⟩,k⟩,l⟩,m⟩,o⟩,p⟩:=h;exact⟨⟨qB d,qB e,qB f,qB g,qB i,qB j,qB k⟩,⟨l,m⟩,o,λx q=>qB (p x q)⟩
theorem Wc.fnv{R:Nat->Nat}{w:jW}{P b:Nat}{d f k l:jU}{s:Wr}(h:Wc R w P b d f k l s)(nm:By)(n:Int):Sx w d f ⟨nm,n,s.ts,s.ss⟩:=by
 refine⟨?_,?_,by have:=h.ok.ts;show s.ts.length<=_;omega,by have:=h.ok.ss;show s.ss.length<=_;omega⟩
 ·obtain⟨q,c,e⟩:=eh h.t;refine⟨q,c,e,by have:=h.ok.ts;show s.ts.length<=_;omega,λx m=>qB (h.ok.okt x m),?_⟩;by_cases o:s.ts=[]
  ·exact .inl o
  ·have p:=cG.2 o;obtain⟨g,r,v,-,-⟩:=h.t.form (by omega);rw[e]at v;injection v with v z A;refine .inr ⟨g,0,v,λj x m=>?_⟩;have:=h.t.cells (g:=g) (by rw[e,v];rfl) j (jV x) (by simp[fI,m]);rw[kw]at this;rw[bQ];exact this
 ·obtain⟨B,C,D,E⟩:=h.st;rcases D.2 with⟨rfl,F⟩|⟨g,r,G,rfl,H,I,J,K,L,M⟩
  ·exact⟨none,0,by rw[F],by show s.ss.length<=0;omega,.inl (bS.1 F)⟩
  ·refine⟨some (jA g),r,rfl,J,.inr ⟨g,0,rfl,λj x m=>?_⟩⟩;have N:=(aK.1 m).1;obtain⟨a,O⟩:∃a,B[j]?=some a:=⟨B[j]'(by rw[C];exact N),aI _⟩;have hc:∀i,i<10->∀u,(CO x a)[i]?=some u->w.cell? (jB g (0+j*10+i))=some u:=λi Q u S=>by
    have:=D.cells (g:=g) rfl (j*10+i) u (by rw[sJ s.ss B j x a m O i Q];exact S);rw[kw]at this;rw[bQ];exact this
   obtain⟨T,U,V,W⟩:=Sy (h.ok.oks x (aM m));refine⟨hc 0 (by omega) _ rfl,hc 1 (by omega) _ rfl,hc 2 (by omega) _ rfl,hc 3 (by omega) _ rfl,hc 4 (by omega) _ rfl,hc 5 (by omega) _ rfl,hc 6 (by omega) _ rfl,hc 7 (by omega) _ rfl,hc 8 (by omega) _ rfl,⟨a,hc 9 (by omega) _ rfl,?_⟩,T,by omega,by omega⟩;obtain⟨q,c,e,Y⟩:=E j x a m O;refine⟨q,c,e,by omega,W,?_⟩;rcases Y with Y|⟨Z,cs,b,v,z,A⟩
   ·exact .inl Y
   ·refine .inr ⟨Z,0,b,λi y d=>?_⟩;rw[bQ];exact eo z (A i y d)
def DD(P:Nat):Nat->Nat:=λb=>if b=P then 6 else if b+1=P then 5 else 0
theorem Qf(w:jW):fC (DD (w.heap.size+1)) ((w.alloc (.map #[] 0)).alloc (jC #[jS,jS,.map (some w.heap.size),jS,jS,jS,jV 0,jV 0,jV 0,jV (-1),jV 0] 159)) (w.heap.size+1) w.heap.size uh:=by
 have h:(w.alloc (.map #[] 0)).heap.size=w.heap.size+1:=by simp
 refine⟨jS,jS,jS,jS,?_,bj _ _ _ _,⟨[],rfl,bj _ _ _ _,λj x a c=>(by cases c)⟩,bj _ _ _ _,bj _ _ _ _,⟨0,?_,aD _⟩,if_pos rfl,λi d=>(by cases d),λi d=>(by cases d),λi d=>(by cases d),λi d=>(by cases d),?_,λb f=>?_,?_⟩
 ·have:=heap_alloc_last (w.alloc (.map #[] 0)) (jC #[jS,jS,.map (some w.heap.size),jS,jS,jS,jV 0,jV 0,jV 0,jV (-1),jV 0] 159);rw[h]at this;exact this
 ·have o:((w.alloc (.map #[] 0)).alloc (jC #[jS,jS,.map (some w.heap.size),jS,jS,jS,jV 0,jV 0,jV 0,jV (-1),jV 0] 159)).heap[w.heap.size]?=(w.alloc (.map #[] 0)).heap[w.heap.size]?:=ed (by rw[h];omega);obtain⟨D,n,m,k⟩:=(Mp.made 9 w).kept o;exact⟨D,n,m,λg=>by
   have:=k g;cases g<;>exact this⟩
 ·unfold DD;rw[if_neg (by omega),if_pos rfl]
 ·unfold DD at f;split at f
  ·rename_i e;subst e;simp
  ·split at f
   ·rename_i e;simp;omega
   ·exact absurd rfl f
 ·exact⟨by decide,by decide,by decide,by decide,by decide,by decide,by decide,by decide,λx c=>(by cases c),λx c=>(by cases c),λx c=>(by cases c),λx c=>(by cases c),λp l=>(by cases l),λx c=>(by cases c)⟩
theorem kV:∀(ps:List (By×Int)) (i:Nat) (p:By×Int),ps[i]?=some p->(lA ps)[i*2]?=some (str p.1)/\(lA ps)[i*2+1]?=some (jV p.2)
 |q::ps,0,p,h=>by
  injection h with h;subst h;exact⟨rfl,rfl⟩
 |q::ps,i+1,p,h=>by
  have:=kV ps i p (by simpa using h);have e:lA (q::ps)=str q.1::jV q.2::lA ps:=rfl;rw[e,show(i+1)*2=i*2+2 by omega];exact this
theorem yO{a:List (By×Int)}{i:Nat}{p:By×Int}{b s':Wr}{u:Unit}(c:a[i]?=some p)(d:ku (a.drop i) b=some (u,s')):∃k f v g,h9 p.2 b=some (k,f)/\lJ p.1 k f=some (v,g)/\ku (a.drop (i+1)) g=some (u,s'):=by
 have h:=(aK.1 c).1;have e:a.drop i=p::a.drop (i+1):=by
  rw[bn h];congr 1;have:=aI h;rw[c]at this;exact(aS this).symm
 rw[e]at d;obtain⟨k,f,h1,h2⟩:=d_ d;obtain⟨v,g,j,l⟩:=d_ h2;exact⟨k,f,v,g,h1,j,l⟩
def AB(a:List (By×Int))(b:Tr):Option (Unit×Wr):=(lb (ku a) λ_=>lb (lX (DR (mm 5000) 100) (mf b)) λ_=>Dj) uh
def QH(nm:By)(n:Nat)(s':Wr)(w:jW)(e:Ending)(w':jW):Prop:=∃a b,e=jR (.agg #[jT ⟨nm.toArray⟩,jV (n:Int),a,b])/\(∃R P c d f,Wc R w' P c a b d f s'/\w.heap.size<P-1)/\az w w'
def FnC:Prop:=∀(w:jW) (nm:By) (a:Int) (b c:jU) (d:Nat) (e:List (By×Int)) (f:Tr) (g:jE),fy (Lo w.heap.size) w 144 2 b e.length (lA e)->fy (Lo w.heap.size) w 147 7 c d g->ey (Lo w.heap.size) w f g->∀(u:Unit)(s':Wr),AB e f=some (u,s')->
  aA 43 #[.agg #[jT ⟨nm.toArray⟩,jV a,b,c]] w (QH nm e.length s' w)
def RJ{α:Type}:Except (Int×List Int) (α×Sg)->List Int
 | .ok (_,s)=>s.out
 | .error (_,out)=>out
end Go.Proofs.YtnfhpdbbfejioaaGreatDoor.Mid
