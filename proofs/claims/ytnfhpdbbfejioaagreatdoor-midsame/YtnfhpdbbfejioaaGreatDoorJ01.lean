/- TB TC TN TD TF GA GC NA -/
import Derived.Test.YtnfhpdbbfejioaaGreatDoorJ00
import Derived.Deep.RegionHeld3
import Derived.Laws.EntriesVeiled
set_option linter.unusedVariables false
set_option linter.unusedSimpArgs false
set_option maxRecDepth 100000
set_option maxHeartbeats 16000000
namespace Go.Proofs.YtnfhpdbbfejioaaGreatDoor
open Go Go.RowKit
variable {w w' W w1:jW}{P f o c d a q i:Nat}{l t r g:Tr}{S:Nat->Prop}{v vl vr u:jU}{b nm:By}{n:Int}
theorem LL{l:List eD}(h:At w P f o c d l)(x:ByteArray)(i:(hd l).t=x.data.toList)(j:x.data.toList≠[]):
  (∀W,PS W P f o c l->Gr P w W->aA 92 #[jP P,jT x] W λe w'=>e=jR (.tuple #[])/\PS w' P f (o+3) (c-1) l.tail/\Gr P w w')/\fL l.tail/\l.tail.length<l.length:=by
 obtain⟨k,m,n,p⟩:=h.ends.tail (by rw[i];exact j);refine⟨λW q r=>?_,k,p⟩;have s:PS W P f o c (hd l::l.tail):=by rw[<-n];exact q
 exact(nZ W P f o c (hd l) l.tail s m x i).mono λe w' ⟨a,b,g⟩=>⟨a,b,r.trans g⟩
theorem ud{l:List eD}(f:fL l)(x:ByteArray)(g:(hd l).t≠x.data.toList)(W:jW)(h:PS W P d o c l)(i:Gr P w W):
  aA 92 #[jP P,jT x] W λe w'=>fQ 3 (hd l).p e w'/\Gr P w w':=by
 have j:PS W P d o c (hd l::l.tail):=by rw[<-f.cons];exact h
 exact(v_ W P d o c (hd l) l.tail j x g).mono λe w' ⟨a,b⟩=>⟨a,i.trans (em b)⟩
theorem jh{l:List eD}(d:PS w P a o c l)(e:Gr P w w')(h:ej S w t v):ej S w' t v:=ej.kept (λb cs t _=>xu d.own e b cs t) t v h
theorem DL(n:Nat)(f:ut n)(d:Nat)(w:jW)(P i o c:Nat)(l:List eD)(h:At w P i o c d l)(j:12*l.length<=n+1):
  aA 207 #[jP P,jV (d:Int)] w (eB w P i (eW (n+1) 5 0 d .nil 0 l)):=by
 by_cases m:(hd l).t=[40]
 ·obtain⟨q,r,s⟩:=LL h ⟨#[40]⟩ m (by decide);have u:=jI (q w h.ps (Gr.refl _ _));have x:=h.deep;have z:Hid (∀w1,PS w1 P i (o+3) (c-1) l.tail->Gr P w w1->aA 206 #[jP P,jV ((d:Int)+1)] w1 (eB w1 P i (eW n 0 1 (d+1) .nil 0 l.tail))):=λw1 A B=>by
   have:=ro n f (d+1) w1 P i (o+3) (c-1) l.tail ⟨h.env.gr B h.far,A,r,h.far,by omega⟩ (by omega);rw[show((d+1:Nat):Int)=(d:Int)+1 by omega]at this;exact this
  have C:eW (n+1) 5 0 d .nil 0 l=eT (eW n 0 1 (d+1) .nil 0 l.tail) λy D=>eT (eC [41] D) λ_ E=> .ok (y,E):=by
   rw[eW];unfold eC;rw[if_pos m];rfl
  rw[C];have F:=h.far;have G:d<=100000:=by omega
  cases H:eW n 0 1 (d+1) .nil 0 l.tail with
  |error I=>
   obtain⟨k,p⟩:=I;have J:=jI (λe w' (h:fQ k p e w'/\Gr P w w')=>h);have K:Hid (∀w1,PS w1 P i (o+3) (c-1) l.tail->Gr P w w1->aA 206 #[jP P,jV ((d:Int)+1)] w1 λe w'=>fQ k p e w'/\Gr P w w'):=λw1 A B=>by
    have:=z w1 A B;rw[H]at this;exact this.mono λe w' h=>eB.back B h
   clear h m q r s x z C H F j f;go_enter Tryz.func207,Tryz.ntmps207
   go_wp2_with(first
    |(go_at_call 92;refine u.mono ?_;rintro e w1 ⟨rfl,A,B⟩;have L:Hid (PS w1 P i (o+3) (c-1) l.tail):=A;have M:Hid (Gr P w w1):=B;clear A B)
    |(go_at_call 206;refine(K _ L M).mono ?_;rintro e N ⟨⟨a,rfl,O⟩,B⟩;have Q:Hid (N.heap[a]?=some (jC #[jV k,jV (p:Int)] 139)):=O;have S:Hid (Gr P w N):=B;clear O B))
   exact⟨rfl,J _ _ ⟨⟨a,rfl,Q⟩,S⟩⟩
  |ok T=>
   obtain⟨t,D⟩:=T;obtain⟨U,V,_⟩:=fj n 0 1 (d+1) .nil 0 l.tail t D (λ_=>by omega) r H;have K:Hid (∀w1,PS w1 P i (o+3) (c-1) l.tail->Gr P w w1->aA 206 #[jP P,jV ((d:Int)+1)] w1 λe w'=>(∃v W Y,e=jR v/\ej (Fr w.heap.size) w' t v/\PS w' P i W Y D)/\Gr P w w'):=λw1 A B=>by
    have:=z w1 A B;rw[H]at this;exact this.mono λe w' h=>eB.back B h
   by_cases Z:(hd D).t=[41]
   ·have J:Hid (∀e w',((∃v W Y,e=jR v/\ej (Fr w.heap.size) w' t v/\PS w' P i W Y D.tail)/\Gr P w w')->eB w P i (eT (.ok (t,D)) λ(y:Tr) D=>eT (eC [41] D) λ_ E=> .ok (y,E)) e w'):=λe w' h=>by
     show eB w P i (eT (eC [41] D) λ_ E=> .ok (t,E)) e w';unfold eC;rw[if_pos Z];exact h
    obtain⟨G,I,Q,T⟩:=U.tail (by rw[Z];simp);have A0:Hid (∀N W Y,PS N P i W Y D->Gr P w N->aA 92 #[jP P,jT ⟨#[41]⟩] N λe w'=>e=jR (.tuple #[])/\PS w' P i (W+3) (Y-1) D.tail/\Gr P N w'/\Gr P w w'):=λN W Y A B=>by
     have A1:PS N P i W Y (hd D::D.tail):=by rw[<-Q];exact A
     exact(nZ N P i W Y (hd D) D.tail A1 I ⟨#[41]⟩ Z).mono λe w' ⟨a,b,g⟩=>⟨a,b,g,B.trans g⟩
    clear h m q r s x z C H F j f Z U V G I Q T;go_enter Tryz.func207,Tryz.ntmps207
    go_wp2_with(go_at_call 92;fail)
    refine u.mono ?_;rintro e w1 ⟨rfl,G,I⟩;have L:=jI G;have M:=jI I;clear G I
    go_wp2_with(go_at_call 206;fail)
    refine(K _ L M).mono ?_;rintro e N ⟨⟨v,W,Y,rfl,Q,T⟩,A2⟩;obtain⟨A3,A4,S⟩:=j3 Q T A2;clear Q T A2
    go_wp2_with(go_at_call 92;fail)
    refine(A0 _ _ _ A4 S).mono ?_;rintro e A5 ⟨rfl,A6,A7,A8⟩;obtain⟨A9,B0,B1⟩:=j3 (jh A4 A7 A3) A6 A8;clear A6 A7 A8;go_wp2;go_ret;exact J _ _ ⟨⟨v,_,_,rfl,A9,B0⟩,B1⟩
   ·have J:Hid (∀e w',fQ 3 (hd D).p e w'/\Gr P w w'->eB w P i (eT (.ok (t,D)) λ(y:Tr) D=>eT (eC [41] D) λ_ E=> .ok (y,E)) e w'):=λe w' h=>by
     show eB w P i (eT (eC [41] D) λ_ E=> .ok (t,E)) e w';unfold eC;rw[if_neg Z];exact h
    have A0:=jI (λN W Y (A:PS N P i W Y D) (B:Gr P w N)=>ud U ⟨#[41]⟩ Z N A B);clear h m q r s x z C H F j f Z U V;go_enter Tryz.func207,Tryz.ntmps207
    go_wp2_with(go_at_call 92;fail)
    refine u.mono ?_;rintro e w1 ⟨rfl,G,I⟩;have L:=jI G;have M:=jI I;clear G I
    go_wp2_with(go_at_call 206;fail)
    refine(K _ L M).mono ?_;rintro e N ⟨⟨v,W,Y,rfl,Q,T⟩,A2⟩;have A4:=jI T;have S:=jI A2;clear Q T A2
    go_wp2_with(go_at_call 92;fail)
    refine(A0 _ _ _ A4 S).mono ?_;rintro e A5 ⟨⟨a,rfl,O⟩,A7⟩;exact⟨rfl,J _ _ ⟨⟨a,rfl,O⟩,A7⟩⟩
 ·have u:=jI (ud h.ends ⟨#[40]⟩ m w h.ps (Gr.refl _ _));have J:Hid (∀e w',fQ 3 (hd l).p e w'/\Gr P w w'->eB w P i (eW (n+1) 5 0 d .nil 0 l) e w'):=λe w' h=>by
   rw[eW];unfold eC;rw[if_neg m];exact h
  clear h m f j;go_enter Tryz.func207,Tryz.ntmps207
  go_wp2_with(go_at_call 92;fail)
  refine u.mono ?_;rintro e A5 ⟨⟨a,rfl,O⟩,A7⟩;exact⟨rfl,J _ _ ⟨⟨a,rfl,O⟩,A7⟩⟩
theorem AA(n:Nat)(f:ut n)(d:Nat)(w:jW)(P i o c:Nat)(l:List eD)(h:At w P i o c (d+1) l)(j:12*l.length+9<=n):
  aA 234 #[jP P,jV (d:Int)] w (eB w P i (eW (n+1) 6 0 d .nil 0 l)):=by
 have m:=h.deep;have q:Hid (aA 206 #[jP P,jV ((d:Int)+1)] w (eB w P i (eW n 0 1 (d+1) .nil 0 l))):=by
  have:=ro n f (d+1) w P i o c l h j;rw[show((d+1:Nat):Int)=(d:Int)+1 by omega]at this;exact this
 have r:eW (n+1) 6 0 d .nil 0 l=eT (eW n 0 1 (d+1) .nil 0 l) λy s=>eT (eC [93] s) λ_ u=> .ok (y,u):=by rw[eW]
 rw[r];have x:d<=100000:=by omega
 have z:=h.ends;cases A:eW n 0 1 (d+1) .nil 0 l with
 |error B=>
  obtain⟨k,p⟩:=B;have C:=jI (λe w' (h:fQ k p e w'/\Gr P w w')=>h);rw[A]at q;have D:=jI q;clear h m q r A j f z;go_enter Tryz.func234,Tryz.ntmps234
  go_wp2_with(go_at_call 206;fail)
  refine D.mono ?_;rintro e E ⟨⟨a,rfl,F⟩,G⟩;exact⟨rfl,C _ _ ⟨⟨a,rfl,F⟩,G⟩⟩
 |ok H=>
  obtain⟨t,s⟩:=H;obtain⟨I,J,_⟩:=fj n 0 1 (d+1) .nil 0 l t s (λ_=>by omega) z A;rw[A]at q;have D:=jI q;by_cases K:(hd s).t=[93]
  ·have C:Hid (∀e w',((∃v L M,e=jR v/\ej (Fr w.heap.size) w' t v/\PS w' P i L M s.tail)/\Gr P w w')->eB w P i (eT (.ok (t,s)) λ(y:Tr) s=>eT (eC [93] s) λ_ u=> .ok (y,u)) e w'):=λe w' h=>by
    show eB w P i (eT (eC [93] s) λ_ u=> .ok (t,u)) e w';unfold eC;rw[if_pos K];exact h
   obtain⟨N,O,Q,S⟩:=I.tail (by rw[K];simp);have T:Hid (∀U L M,PS U P i L M s->Gr P w U->aA 92 #[jP P,jT ⟨#[93]⟩] U λe w'=>e=jR (.tuple #[])/\PS w' P i (L+3) (M-1) s.tail/\Gr P U w'/\Gr P w w'):=λU L M V W=>by
    have Y:PS U P i L M (hd s::s.tail):=by rw[<-Q];exact V
    exact(nZ U P i L M (hd s) s.tail Y O ⟨#[93]⟩ K).mono λe w' ⟨a,b,g⟩=>⟨a,b,g,W.trans g⟩
   clear h m q r A j f z K I J N O Q S;go_enter Tryz.func234,Tryz.ntmps234
   go_wp2_with(go_at_call 206;fail)
   refine D.mono ?_;rintro e U ⟨⟨v,L,M,rfl,Z,x⟩,B⟩;obtain⟨H,N,O⟩:=j3 Z x B;clear Z x B
   go_wp2_with(go_at_call 92;fail)
   refine(T _ _ _ N O).mono ?_;rintro e E ⟨rfl,Q,G,S⟩;obtain⟨Y,H,A0⟩:=j3 (jh N G H) Q S;clear Q G S;go_wp2;go_ret;exact C _ _ ⟨⟨v,_,_,rfl,Y,H⟩,A0⟩
  ·have C:Hid (∀e w',fQ 3 (hd s).p e w'/\Gr P w w'->eB w P i (eT (.ok (t,s)) λ(y:Tr) s=>eT (eC [93] s) λ_ u=> .ok (y,u)) e w'):=λe w' h=>by
    show eB w P i (eT (eC [93] s) λ_ u=> .ok (t,u)) e w';unfold eC;rw[if_neg K];exact h
   have T:=jI (λU L M (V:PS U P i L M s) (W:Gr P w U)=>ud I ⟨#[93]⟩ K U V W);clear h m q r A j f z K I J;go_enter Tryz.func234,Tryz.ntmps234
   go_wp2_with(go_at_call 206;fail)
   refine D.mono ?_;rintro e U ⟨⟨v,L,M,rfl,Z,x⟩,B⟩;have N:=jI x;have O:=jI B;clear Z x B
   go_wp2_with(go_at_call 92;fail)
   refine(T _ _ _ N O).mono ?_;rintro e E ⟨⟨a,rfl,F⟩,G⟩;exact⟨rfl,C _ _ ⟨⟨a,rfl,F⟩,G⟩⟩
theorem oy{b:Nat}{c a:Int}{d:By}(e:S b)(f:w.heap[b]?=some (jC #[jV c,jV a,jV n,str nm,str d,vl,vr,jS] 252))(g:ej S w l vl)(h:ej S w r vr):ej S w (nd c a n nm d l r ce) (jP b):=by
 rw[ej];exact⟨b,vl,vr,jS,[],e,rfl,f,g,h,bj w _ _ _,λi j=>(by cases j),(by rw[ej])⟩
theorem gV(S:Nat->Prop)(w:jW):ej S w .nil (jQ none):=by rw[ej]
theorem sV(h:ej S w t v)(A:Obj):ej S (w.alloc A) t v:=
 ej.kept (λb cs t _ _ a=>by rw[ed (aC.1 a).1];exact a) t v h
theorem sW{c a:Int}(d:S w.heap.size)(e:ej S w l vl)(f:ej S w r vr):ej S (w.alloc (jC #[jV c,jV a,jV n,str nm,str b,vl,vr,jS] 252)) (nd c a n nm b l r ce) (jP w.heap.size):=
 oy d (by show(w.heap.push _)[w.heap.size]?=_;simp) (sV e _) (sV f _)
def Kk(n:Nat):Prop:=∀(d:Nat)(w:jW)(P a o c:Nat)(l:List eD),At w P a o c d l->12*l.length+2<=n->aA 247 #[jP P,jV (d:Int)] w (eB w P a (eW n 2 0 d .nil 0 l))
theorem Fx(n:Nat)(b:Kk n)(d:Nat)(w:jW)(P f o c:Nat)(l:List eD)(h:At w P f o c d l)(g:12*l.length+2<=n):
  aA 235 #[jP P,jV 7,jV (d:Int)] w (eB w P f (eW (n+1) 0 7 d .nil 0 l)):=by
 have i:=jI (b d w P f o c l h g);clear h b;have j:eW (n+1) 0 7 d .nil 0 l=eW n 2 0 d .nil 0 l:=by
  rw[eW];simp
 rw[j];cases m:eW n 2 0 d .nil 0 l with
 |error q=>
  obtain⟨k,p⟩:=q;rw[m]at i;have r:=jI i;have s:=jI (λe w' (h:fQ k p e w'/\Gr P w w')=>h);clear i m j g;go_enter Tryz.func235,Tryz.ntmps235
  go_wp2_with(go_at_call 247;refine r.mono ?_;rintro e w1 ⟨⟨a,rfl,u⟩,x⟩;have y:Hid (w1.heap[a]?=some (jC #[jV k,jV (p:Int)] 139)):=u;have z:Hid (Gr P w w1):=x;clear u x)
  exact⟨rfl,s _ _ ⟨⟨a,rfl,y⟩,z⟩⟩
 |ok A=>
  obtain⟨t,B⟩:=A;rw[m]at i;have r:=jI i;have s:=jI (λe w' (h:((∃v C D,e=jR v/\ej (Fr w.heap.size) w' t v/\PS w' P f C D B)/\Gr P w w'))=>h);clear i m j g;go_enter Tryz.func235,Tryz.ntmps235
  go_wp2_with(go_at_call 247;refine r.mono ?_;rintro e w1 ⟨⟨v,C,D,rfl,E,F⟩,x⟩;have G:Hid (ej (Fr w.heap.size) w1 t v):=E;have H:Hid (PS w1 P f C D B):=F;have z:Hid (Gr P w w1):=x;clear E F x)
  go_ret;exact s _ _ ⟨⟨v,C,D,rfl,G,H⟩,z⟩
theorem Fy(n:Nat)(d:Nat)(w:jW)(P f o c:Nat)(l:List eD)(h:At w P f o c d l)(g:12<d)(hk:(hd l).k≠3):
  aA 247 #[jP P,jV (d:Int)] w (eB w P f (eW (n+1) 2 0 d .nil 0 l)):=by
 have i:=h.deep;have j:PS w P f o c (hd l::l.tail):=by rw[<-h.ends.cons];exact h.ps
 have m:Hid (aA 148 #[jP P,jV (d:Int)] w λe w'=>fQ 4 (hd l).p e w'/\Gr P w w'):=(ym w P f o c (hd l) l.tail j d g (by omega) hk).mono λe w' ⟨a,b⟩=>⟨a,em b⟩;have q:Hid (∀e w',fQ 4 (hd l).p e w'/\Gr P w w'->eB w P f (eW (n+1) 2 0 d .nil 0 l) e w'):=λe w' h=>by
  rw[eW];unfold l8;rw[if_pos ⟨g,hk⟩];exact h
 clear h i j hk g;go_enter Tryz.func247,Tryz.ntmps247
 go_wp2_with(go_at_call 148;fail)
 refine m.mono ?_;rintro e w1 ⟨⟨a,rfl,r⟩,s⟩;exact⟨rfl,q _ _ ⟨⟨a,rfl,r⟩,s⟩⟩
theorem lI{l:List eD}(h:At w P f o c d l)(y:ByteArray)(g:str (hd l).t=jT y)(W:jW)(i:az w W):
  aA 59 #[jP P] W λe w'=>e=jR (.agg #[jV ((hd l).k:Int),jT y,jV ((hd l).p:Int)])/\az w w':=by
 have j:PS W P f o c (hd l::l.tail):=by rw[<-h.ends.cons];exact h.ps.below i
 exact(iI W P f o c (hd l) l.tail j y g).mono λe w' ⟨a,b⟩=>⟨a,i.trans (b.mono i.size)⟩
theorem sX{l:List eD}(h:At w P a o c d l)(hk:d<=12\/(hd l).k=3):
  aA 148 #[jP P,jV (d:Int)] w λe w'=>e=jR (.tuple #[])/\az w w':=by
 have b:=h.deep;have f:PS w P a o c (hd l::l.tail):=by rw[<-h.ends.cons];exact h.ps
 exact Dq w P a o c (hd l) l.tail f d (by omega) hk
def fw(t:Tr):Prop:=∃c a n nm b l r g,t=nd c a n nm b l r g
theorem rS(c a n:Int)(nm b:By)(l r g:Tr):fw (nd c a n nm b l r g):=⟨c,a,n,nm,b,l,r,g,rfl⟩
theorem fw.ptr(h:fw t)(d:ej S w t v):∃b,v=jP b:=by
 obtain⟨c,a,n,nm,f,l,r,g,rfl⟩:=h;rw[ej]at d;obtain⟨b,_,_,_,_,_,e,_⟩:=d;exact⟨b,e⟩
theorem nC{u:Tr}{l a:List eD}(h:(Except.ok (u,l):R Tr)= .ok (t,a))(b:fw u):fw t:=by
 injection h with h;injection h with h1 h2;rw[<-h1];exact b
theorem f_:∀(f g a d:Nat)(x:Tr)(p:Nat)(l:List eD)(t:Tr)(b:List eD),(g=1\/g=3->fw x)->g≠7->eW f g a d x p l= .ok (t,b)->fw t
 |0,_,_,_,_,_,_,_,_,_,_,h=>by simp[eW]at h
 |f+1,0,a,d,x,p,l,t,b,c,e,h=>by
  rw[eW]at h;split at h
  ·exact f_ f 2 0 d .nil 0 l t b (by omega) (by omega) h
  ·obtain⟨y,i,h1,h2⟩:=ee h;exact f_ f 1 a d y _ i t b (λ_=>f_ f 0 (a+1) d .nil 0 l y i (by omega) (by omega) h1) (by omega) h2
 |f+1,1,a,d,x,p,l,t,b,c,e,h=>by
  rw[eW]at h;split at h
  ·obtain⟨y,i,h1,h2⟩:=ee h;exact f_ f 1 a d _ _ i t b (λ_=>rS _ _ _ _ _ _ _ _) (by omega) h2
  ·exact nC h (c (.inl rfl))
 |f+1,2,a,d,x,p,l,t,b,c,e,h=>by
  rw[eW]at h;obtain⟨_,_,_,h⟩:=ee h;split at h
  ·obtain⟨y,i,h1,h2⟩:=ee h;exact nC h2 (rS _ _ _ _ _ _ _ _)
  ·obtain⟨y,i,h1,h2⟩:=ee h;exact f_ f 3 0 d y _ i t b (λ_=>f_ f 4 0 d .nil 0 l y i (by omega) (by omega) h1) (by omega) h2
 |f+1,3,a,d,x,p,l,t,b,c,e,h=>by
  rw[eW]at h;split at h
  ·obtain⟨y,i,h1,h2⟩:=ee h;exact f_ f 3 0 d _ _ i t b (λ_=>rS _ _ _ _ _ _ _ _) (by omega) h2
  ·exact nC h (c (.inr rfl))
 |f+1,4,a,d,x,p,l,t,b,c,e,h=>by
  rw[eW]at h;split at h
  ·obtain⟨y,i,h1,h2⟩:=ee h;exact nC h2 (rS _ _ _ _ _ _ _ _)
  split at h
  ·obtain⟨y,i,h1,h2⟩:=ee h;split at h2
   ·split at h2
    ·exact nC h2 (rS _ _ _ _ _ _ _ _)
    ·obtain⟨j,k,m,n⟩:=ee h2;exact nC n (rS _ _ _ _ _ _ _ _)
   ·exact nC h2 (rS _ _ _ _ _ _ _ _)
  split at h
  ·obtain⟨y,i,h1,h2⟩:=ee h;exact nC h2 (rS _ _ _ _ _ _ _ _)
  split at h
  ·obtain⟨y,i,h1,h2⟩:=ee h;exact nC h2 (rS _ _ _ _ _ _ _ _)
  split at h
  ·obtain⟨y,i,h1,h2⟩:=ee h;obtain⟨j,k,m,n⟩:=ee h2;exact nC n (rS _ _ _ _ _ _ _ _)
  ·exact f_ f 5 0 d .nil 0 l t b (by omega) (by omega) h
 |f+1,5,a,d,x,p,l,t,b,c,e,h=>by
  rw[eW]at h;obtain⟨_,i,h1,h⟩:=ee h;obtain⟨y,k,h2,h⟩:=ee h;obtain⟨_,o,m,h⟩:=ee h;exact nC h (f_ f 0 1 (d+1) .nil 0 i y k (by omega) (by omega) h2)
 |f+1,6,a,d,x,p,l,t,b,c,e,h=>by
  rw[eW]at h;obtain⟨y,k,h2,h⟩:=ee h;obtain⟨_,o,m,h⟩:=ee h;exact nC h (f_ f 0 1 (d+1) .nil 0 l y k (by omega) (by omega) h2)
 |f+1,7,a,d,x,p,l,t,b,c,e,h=>absurd rfl e
 |f+1,g+8,a,d,x,p,l,t,b,c,e,h=>by rw[eW]at h;cases h
theorem wN{x:Int}(h1: -1000000<=x)(h2:x<=1000000):IntKind.i64.wrap x=x:=by
 simp only[IntKind.wrap,IntKind.signed,IntKind.bits];simp;omega
theorem Ec{l:List eD}(h:At w P f o c d l)(x:ByteArray)(i:(hd l).t=x.data.toList)(j:x.data.toList≠[])(W:jW)(k:az w W):
  aA 94 #[jP P,jT x] W λe w'=>e=jR (.bool true)/\PS w' P f (o+3) (c-1) l.tail/\Gr P w w'/\Gr P W w':=by
 obtain⟨m,n,p,q⟩:=h.ends.tail (by rw[i];exact j);have r:PS W P f o c (hd l::l.tail):=by rw[<-p];exact h.ps.below k
 exact(mR W P f o c (hd l) l.tail r n x i).mono λe w' ⟨a,b,g⟩=>⟨a,b,(em k).trans g,g⟩
theorem Gr.blk{A:Obj}(h:Gr P w w')(a:w.heap[q]?=some A)(b:q≠P):w'.heap[q]?=some A:=by
 rw[h.block q (aC.1 a).1 (by intro e;injection e with e;exact b e)];exact a
theorem Nt{p:Int}{m:By}{x:ByteArray}(a:m=x.data.toList)(b:S w.heap.size)(h:ej S w t v):ej S (w.alloc (jC #[jV 4,jV p,jV 0,jT ⟨#[]⟩,jT x,v,jQ none,jS] 252)) (nd 4 p 0 [] m t .nil ce) (jP w.heap.size):=by
 subst a;exact sW b h (gV S w)
theorem eB.parts{r:R Tr}{e:Ending}(h:eB w P c r e w'):
  (∃t f v i j,r= .ok (t,f)/\e=jR v/\ej (Fr w.heap.size) w' t v/\PS w' P c i j f/\Gr P w w')\/(∃k p,r= .error (k,p)/\fQ k p e w'/\Gr P w w'):=by
 match r,h with
 | .ok (t,f),⟨⟨v,i,j,a,b,d⟩,g⟩=>exact .inl ⟨t,f,v,i,j,rfl,a,b,d,g⟩
 | .error (k,p),⟨a,b⟩=>exact .inr ⟨k,p,rfl,a,b⟩
theorem At.go{b e:Nat}{l l':List eD}(h:At w P a o c d l)(g:Gr P w W)(i:PS W P a b e l')(j:fL l')(hd:f+l'.length<=100000):At W P a b e f l':=⟨h.env.gr g h.far,i,j,h.far,hd⟩
theorem At.below{l:List eD}(h:At w P a o c d l)(b:az w W):At W P a o c d l:=h.go (em b) (h.ps.below b) h.ends h.deep
theorem At.psc{l:List eD}(h:At w P a o c d l):PS w P a o c (hd l::l.tail):=by rw[<-h.ends.cons];exact h.ps
theorem At.ltP{l:List eD}(h:At w P a o c d l):P<w.heap.size:=(aC.1 h.ps.own).1
theorem At.ltT{l:List eD}(h:At w P a o c d l):a<w.heap.size:=h.psc.ltT
theorem Gr.set(h:Gr P w w')(a:w.heap.size<=q):Gr P w (w'.setCell (jB q i) v):=
 ⟨h.os,h.tape,h.output,by simp;exact h.size,λk hk b=>by rw[aG _ _ _ _ (by show k≠q;omega)];exact h.block k hk b⟩
theorem PS.set{l:List eD}(h:PS w P a o c l)(b:P<q)(d:a<q):PS (w.setCell (jB q i) v) P a o c l:=
 h.of (aG _ _ _ _ (by show P≠q;omega)) (aG _ _ _ _ (by show a≠q;omega))
theorem Ap{l:List eD}(h:At w P a o c d l)(hk:(hd l).k≠3)(v:Int)(b:Lib.parseIntB 64 (hd l).t= .ok v):
  aA 259 #[jP P] w λe w'=>e=jR (jV v)/\PS w' P a (o+3) (c-1) l.tail/\Gr P w w':=by
 obtain⟨f,g,i,j⟩:=h.ends.tail (h.ends.kind hk);have:=h.ends.short;exact Au w P a o c (hd l) l.tail h.psc g (by omega) v b
theorem Dy{l:List eD}(h:At w P f o c d l)(g:∀v,Lib.parseIntB 64 (hd l).t≠.ok v):
  aA 259 #[jP P] w λe w'=>fQ 4 (hd l).p e w'/\Gr P w w':=by
 have:=h.ends.short;exact(DC w h.env P f o c (hd l) l.tail h.psc (by omega) g).mono λe w' ⟨a,b⟩=>⟨a,em b⟩
theorem Qc{l:List eD}(h:At w P f o c d l)(hk:(hd l).k≠3):
  aA 259 #[jP P] w λe w'=>(∃v,mD l= .ok (v,l.tail)/\e=jR (jV v)/\PS w' P f (o+3) (c-1) l.tail/\Gr P w w')\/(mD l= .error (4,(hd l).p)/\fQ 4 (hd l).p e w'/\Gr P w w'):=by
 cases i:Lib.parseIntB 64 (hd l).t with
 |ok v=>exact(Ap h hk v i).mono λe w' ⟨a,b,g⟩=> .inl ⟨v,by unfold mD;rw[i],a,b,g⟩
 |_=>exact(Dy h (by intro v;rw[i];intro e;cases e)).mono λe w' ⟨a,g⟩=> .inr ⟨by unfold mD;rw[i],a,g⟩
theorem yN{l:List eD}(h:At w P f o c d l):
  aA 93 #[jP P] w λe w'=>(im l= .ok ((hd l).t,l.tail)/\e=jR (str (hd l).t)/\PS w' P f (o+3) (c-1) l.tail/\Gr P w w'/\fL l.tail/\l.tail.length<l.length)\/(∃k,im l= .error (k,(hd l).p)/\fQ k (hd l).p e w'/\Gr P w w'):=by
 have i:=h.ends.short;by_cases hk:(hd l).k=0
 ·by_cases j:(hd l).t.length<=12
  ·obtain⟨m,n,q,r⟩:=h.ends.tail (h.ends.kind (by omega));refine(GJ w P f o c (hd l) l.tail h.psc n hk j).mono λe w' ⟨a,b,g⟩=> .inl ⟨?_,a,b,g,m,r⟩;unfold im;rw[if_neg (by omega),if_neg (by omega)]
  ·refine(BO w P f o c (hd l) l.tail h.psc 4 (.inr ⟨hk,by omega,rfl⟩) (by omega)).mono λe w' ⟨a,b⟩=> .inr ⟨4,?_,a,em b⟩;unfold im;rw[if_neg (by omega),if_pos (by omega)]
 ·refine(BO w P f o c (hd l) l.tail h.psc 3 (.inl ⟨hk,rfl⟩) (by omega)).mono λe w' ⟨a,b⟩=> .inr ⟨3,?_,a,em b⟩;unfold im;rw[if_pos hk]
theorem iO{l:List eD}(h:At w P f o c d l)(x:ByteArray)(i:x.data.toList≠[]):
  aA 94 #[jP P,jT x] w λe w'=>((hd l).t=x.data.toList/\e=jR (.bool true)/\PS w' P f (o+3) (c-1) l.tail/\Gr P w w'/\fL l.tail/\l.tail.length<l.length)\/((hd l).t≠x.data.toList/\e=jR (.bool false)/\az w w'):=by
 by_cases j:(hd l).t=x.data.toList
 ·obtain⟨k,m,n,p⟩:=h.ends.tail (by rw[j];exact i);exact(mR w P f o c (hd l) l.tail h.psc m x j).mono λe w' ⟨a,b,g⟩=> .inl ⟨j,a,b,g,k,p⟩
 ·exact(mC w P f o c (hd l) l.tail h.psc x j).mono λe w' ⟨a,b⟩=> .inr ⟨j,a,b⟩
theorem jY{l:List eD}(h:At w P f o c d l)(x:ByteArray)(i:x.data.toList≠[]):
  aA 92 #[jP P,jT x] w λe w'=>(eC x.data.toList l= .ok ((),l.tail)/\e=jR (.tuple #[])/\PS w' P f (o+3) (c-1) l.tail/\Gr P w w'/\fL l.tail/\l.tail.length<l.length)\/(eC x.data.toList l= .error (3,(hd l).p)/\fQ 3 (hd l).p e w'/\Gr P w w'):=by
 by_cases j:(hd l).t=x.data.toList
 ·obtain⟨k,m,n,q⟩:=h.ends.tail (by rw[j];exact i);exact(nZ w P f o c (hd l) l.tail h.psc m x j).mono λe w' ⟨a,b,g⟩=> .inl ⟨by unfold eC;rw[if_pos j],a,b,g,k,q⟩
 ·exact(v_ w P f o c (hd l) l.tail h.psc x j).mono λe w' ⟨a,b⟩=> .inr ⟨by unfold eC;rw[if_neg j],a,em b⟩
theorem Hw(n:Nat)(d:Nat)(w:jW)(P b o c:Nat)(l:List eD)(h:At w P b o c d l)(hk:(hd l).k=2):
  aA 256 #[jP P,jV (d:Int)] w (eB w P b (eW (n+1) 4 0 d .nil 0 l)):=by
 obtain⟨y,f,g⟩:=fU (hd l).t;have j:Hid (aA 59 #[jP P] w λe w'=>e=jR (.agg #[jV 2,jT y,jV ((hd l).p:Int)])/\az w w'):=by
  have:=lI h y f w (aJ _ _);rw[hk]at this;exact this
 have m:=jI h;have r:=jI hk;have s:eW (n+1) 4 0 d .nil 0 l=eT (mD l) λv u=> .ok (nd 1 (hd l).p v [] [] .nil .nil ce,u):=by
  rw[eW,if_pos hk]
 rw[s];have x:Hid (∀v e w',mD l= .ok (v,l.tail)->(∃z A B,e=jR z/\ej (Fr w.heap.size) w' (nd 1 (hd l).p v [] [] .nil .nil ce) z/\PS w' P b A B l.tail)->Gr P w w'->eB w P b (eT (mD l) λv u=> .ok (nd 1 (hd l).p v [] [] .nil .nil ce,u)) e w'):=λv e w' h1 h2 C=>by
  rw[h1];exact⟨h2,C⟩
 have D:Hid (∀k p e w',mD l= .error (k,p)->fQ k p e w'->Gr P w w'->eB w P b (eT (mD l) λv u=> .ok (nd 1 (hd l).p v [] [] .nil .nil ce,u)) e w'):=λk p e w' h1 h2 C=>by
  rw[h1];exact⟨h2,C⟩
 generalize E:eB w P b (eT (mD l) λv u=> .ok (nd 1 (hd l).p v [] [] .nil .nil ce,u))=G at*;clear h hk f g s E;go_enter Tryz.func256,Tryz.ntmps256
 go_wp2_with(go_at_call 59;fail)
 refine j.mono ?_;rintro e w1 ⟨rfl,F⟩;have H:=jI F;clear F
 go_wp2_with(go_at_call 259;fail)
 obtain⟨W,I⟩:=aB ((w1.alloc (jC #[jV 2,jT y,jV ((hd l).p:Int)] 136)).alloc (jC #[jV 0,jV ((hd l).p:Int),jV 0,jT ⟨#[]⟩,jT ⟨#[]⟩,jQ none,jQ none,jS] 252));obtain⟨q,J⟩:=aB (w1.heap.size+1);have K:Hid (W.heap[q]?=some (jC #[jV 0,jV ((hd l).p:Int),jV 0,jT ⟨#[]⟩,jT ⟨#[]⟩,jQ none,jQ none,jS] 252)):=by
  show _=_;rw[I,J];have:=heap_alloc_last (w1.alloc (jC #[jV 2,jT y,jV ((hd l).p:Int)] 136)) (jC #[jV 0,jV ((hd l).p:Int),jV 0,jT ⟨#[]⟩,jT ⟨#[]⟩,jQ none,jQ none,jS] 252);simpa using this
 have L:Hid (w.heap.size<=q/\P<q/\b<q):=by
  show _/\_;have:=H.size;have:=m.ltP;have:=m.ltT;omega
 have M:Hid (az w W):=by
  show Below _ _ _;rw[I];exact(H.alloc H.size _).alloc (by simp;have:=H.size;omega) _
 rw[<-I,<-J];clear I J H;refine(Qc (m.below M) (by rw[r.out];decide)).mono ?_;rintro e N (⟨v,O,rfl,Q,S⟩|⟨O,⟨a,rfl,T⟩,S⟩)
 rotate_left
 ·exact⟨rfl,D _ _ _ _ O ⟨a,rfl,T⟩ ((em M).trans S)⟩
 have U:=S.blk K (by have:=L.out;omega);have V:=ea U 0;have Y:=ea U 2;have Z:=jc 0 U;have A:=jc 2 U;obtain⟨B,C,f,g⟩:=j4 U Q ((em M).trans S) O;have j:q<N.heap.size:=(aC.1 U).1;clear U Q S O K M;go_wp2;refine x v _ _ g ⟨_,_,_,rfl,oy L.out.1 (aH _ _ _ _ _ _ (aH _ _ _ _ _ _ B)) (gV _ _) (gV _ _),(C.set L.out.2.1 L.out.2.2).set L.out.2.1 L.out.2.2⟩ ((f.set L.out.1).set L.out.1)
abbrev kz(k:Int):Ending:= .panicked [{v:= .iface 61 (jV k),recovered:=false}]
abbrev QZ(n:Int):Ending:= .panicked [{v:= .iface 129 (jV n),recovered:=false}]
theorem eQ(k:Int)(w:jW):aA 54 #[jV k] w λe w'=>e=kz k/\w'=w:=by
 go_enter Tryz.func54,Tryz.ntmps54;go_wp2;exact⟨rfl,rfl,rfl⟩
theorem uE(b:Bool)(w:jW):aA 223 #[.bool b] w λe w'=>e=jR (jV (if b then 1 else 0))/\w'=w:=by
 cases b<;>(go_enter Tryz.func223,Tryz.ntmps223;go_wp2;go_ret;exact⟨rfl,rfl⟩)
theorem gu(n:Int)(w:jW):aA 196 #[jV n] w λe w'=>e=jR (uF n jS)/\az w w':=by
 go_enter Tryz.func196,Tryz.ntmps196;go_wp2;exact bodyPost_ret (v:=uF n jS) (by simp[results,Tryz.results196,go_sem]) rfl ⟨rfl,(aJ _ _).alloc (aD _) _⟩
theorem xw(n:Int)(w:jW):aA 243 #[jV n] w λe w'=>((n=0/\e=kz 2)\/(n≠0/\e=jR (jV n)))/\w'=w:=by
 by_cases h:n=0
 ·subst h;go_enter Tryz.func243,Tryz.ntmps243
  go_wp2_with(go_at_call 54;refine(eQ _ _).mono ?_;rintro e w' ⟨rfl,rfl⟩)
  exact⟨rfl,.inl ⟨trivial,rfl⟩,rfl⟩
 ·go_enter Tryz.func243,Tryz.ntmps243;go_wp2;go_ret;exact⟨.inr ⟨h,rfl⟩,rfl⟩
def nh(c:By)(a b:Int):Bool:=if c=[61,61] then decide (a=b) else if c=[33,61] then decide (a≠b) else if c=[60] then decide (a<b) else if c=[60,61] then decide (a<=b) else if c=[62] then decide (a>b) else decide (a≥b)
theorem qU(y:ByteArray)(a b:Int)(w:jW):aA 244 #[jT y,jV a,jV b] w λe w'=>e=jR (.bool (nh y.data.toList a b))/\w'=w:=by
 rw[my];go_enter Tryz.func244,Tryz.ntmps244;go_wp2
 all_goals (go_ret;refine⟨xx ?_,rfl⟩;unfold nh;simp_all [cA,bne])
def gj(c:By)(a b:Int):Option Int:=
 if c=[43] then some (wrap64 (a+b))
 else if c=[45] then some (wrap64 (a-b))
 else if c=[42] then some (wrap64 (a*b))
 else if c=[47] then(if b=0 then none else some (wrap64 (a.tdiv b)))
 else if c=[37] then(if b=0 then none else some (a.tmod b))
 else some (if nh c a b then 1 else 0)
def Mn(c:By)(a b:Int)(w:jW)(e:Ending)(w':jW):Prop:=((∃n,gj c a b=some n/\e=jR (jV n))\/(gj c a b=none/\e=kz 2))/\w'=w
theorem sB(y:ByteArray)(a b:Int)(w:jW):aA 226 #[jT y,jV a,jV b] w (Mn y.data.toList a b w):=by
 rw[my];obtain⟨G,c⟩:=aB (Mn y.toList a b w);have d:=jI c;have f:Hid (∀w,aA 244 #[jT y,jV a,jV b] w λe w'=>e=jR (.bool (nh y.toList a b))/\w'=w):=λw=>by have:=qU y a b w;rw[my]at this;exact this
 rw[<-c];clear c;go_enter Tryz.func226,Tryz.ntmps226
 go_wp2_with(first
  |(go_at_call 243;refine(xw _ _).mono ?_;rintro e w' ⟨⟨g,rfl⟩|⟨g,rfl⟩,rfl⟩)
  |(go_at_call 244;refine(f _).mono ?_;rintro e w' ⟨rfl,rfl⟩)
  |(go_at_call 223;refine(uE _ _).mono ?_;rintro e w' ⟨rfl,rfl⟩))
 all_goals first
  |(refine⟨rfl,?_⟩;rw[d.out];refine⟨.inr ⟨?_,rfl⟩,rfl⟩;unfold gj;simp_all;done)
  |(rw[d.out];refine⟨.inl ⟨_,?_,rfl⟩,rfl⟩;unfold gj;simp_all;done)
  |trace_state
 all_goals omega
def mA(w:jW)(bx:Nat)(c a n:Int)(nm d:By):Prop:=∃(b:Nat)(vl vr e:jU),w.heap[bx]?=some (jC #[ptr b] 145)/\w.heap[b]?=some (jC #[jV c,jV a,jV n,str nm,str d,vl,vr,e] 252)
def gz(w:jW)(P:Nat):Tr->jU->Prop
 | .agg [.lit (.int _ c),.lit (.int _ a),.lit (.int _ n),.lit (.string nm),.lit (.string b),l,r,xs],v=>
  (c=1/\∃bx,v= .func (.func 200) #[] #[ptr bx]/\mA w bx c a n nm b)\/
  (c=2/\∃bx,v= .func (.func 189) #[] #[ptr bx]/\mA w bx c a n nm b)\/
  (c=3/\∃bx bl d vl vr,v=(if b=[38,38] then .func (.func 222) #[] #[ptr bl,ptr d] else if b=[124,124] then .func (.func 224) #[] #[ptr bl,ptr d] else .func (.func 225) #[] #[ptr bl,ptr bx,ptr d])/\mA w bx c a n nm b/\w.heap[bl]?=some (jC #[vl] 245)/\w.heap[d]?=some (jC #[vr] 245)/\gz w P l vl/\gz w P r vr)\/
  (c=4/\∃bl vl,v=(if b=[45] then .func (.func 227) #[] #[ptr bl] else .func (.func 228) #[] #[ptr bl])/\w.heap[bl]?=some (jC #[vl] 245)/\gz w P l vl)\/
  (c=5/\∃(e bx f g:Nat)(h:jE),v= .func (.func 229) #[] #[ptr e,ptr bx,ptr f]/\w.heap[e]?=some (jC #[ptr P] 57)/\mA w bx c a n nm b/\w.heap[f]?=some (jC #[jL (some (jA g)) h.length h.length] 297)/\w.heap[g]?=some (.cells h.toArray 245)/\gz w P xs (.tuple h.toArray))\/
  (c=6/\∃bl vl,v= .func (.func 193) #[] #[ptr bl]/\w.heap[bl]?=some (jC #[vl] 245)/\gz w P l vl)\/
  (c=7/\∃bl vl,v= .func (.func 195) #[] #[ptr bl]/\w.heap[bl]?=some (jC #[vl] 245)/\gz w P l vl)\/
  (c=8/\∃bl d vl vr,v= .func (.func 197) #[] #[ptr bl,ptr d]/\w.heap[bl]?=some (jC #[vl] 245)/\w.heap[d]?=some (jC #[vr] 245)/\gz w P l vl/\gz w P r vr)\/
  (c=9/\∃e,v= .func (.func 198) #[] #[ptr e]/\w.heap[e]?=some (jC #[ptr P] 57))
 | .slice [x] [g],v=>∃(y:jU)(h:jE),v= .tuple (y::h).toArray/\gz w P x y/\gz w P g (.tuple h.toArray)
 | .slice [] [],v=>v= .tuple #[]
 |_,_=>False
def Ks(w w':jW):Prop:=∀(b:Nat)(cs:Array Value)(t:TypeId),t≠60->((t=245\/t=67)->Value.nilFunc∉cs)->w.heap[b]?=some (.cells cs t)->w'.heap[b]?=some (.cells cs t)
theorem Ks.below(h:az w w'):Ks w w':=λb cs t _ _ a=>by rw[h.block b (aC.1 a).1];exact a
theorem gz.isf(h:gz w P t v):v≠.nilFunc:=by
 unfold gz at h;split at h
 ·rcases h with⟨_,bx,rfl,_⟩|⟨_,bx,rfl,_⟩|⟨_,bx,bl,a,vl,vr,rfl,_⟩|⟨_,bl,vl,rfl,_⟩|⟨_,b,bx,c,g,d,rfl,_⟩|⟨_,bl,vl,rfl,_⟩|⟨_,bl,vl,rfl,_⟩|⟨_,bl,a,vl,vr,rfl,_⟩|⟨_,b,rfl,_⟩
  all_goals (repeat' split)<;>simp
 ·obtain⟨y,d,rfl,_⟩:=h;simp
 ·rw[h];simp
 ·exact h.elim
theorem gz.row:∀(t:Tr){a:jE},gz w P t (.tuple a.toArray)->Value.nilFunc∉a.toArray:=λt a h=>by
 unfold gz at h;split at h
 ·rcases h with⟨_,bx,e,_⟩|⟨_,bx,e,_⟩|⟨_,bx,bl,d,vl,vr,e,_⟩|⟨_,bl,vl,e,_⟩|⟨_,f,bx,i,g,a,e,_⟩|⟨_,bl,vl,e,_⟩|⟨_,bl,vl,e,_⟩|⟨_,bl,d,vl,vr,e,_⟩|⟨_,f,e,_⟩
  all_goals (repeat' split at e)<;>simp at e
 ·rename_i x g;obtain⟨y,ys',e,h2,c⟩:=h;have b:a=y::ys':=by simpa using e
  subst b;have:=gz.row g c;simp only[List.mem_toArray,aY,not_or]at this⊢;exact⟨λe=>h2.isf e.symm,this⟩
 ·have b:a=[]:=by simpa using h
  subst b;simp
 ·exact h.elim
theorem mA.kept(h:Ks w w'){bx:Nat}{c a:Int}{op:By}(d:mA w bx c a n nm op):mA w' bx c a n nm op:=by
 obtain⟨b,vl,vr,f,h1,h2⟩:=d;exact⟨b,vl,vr,f,h _ _ _ (by decide) (λe=>absurd e (by decide)) h1,h _ _ _ (by decide) (λe=>absurd e (by decide)) h2⟩
theorem gz.kept{P:Nat}(h1:Ks w w')(t:Tr)(v:jU)(h:gz w P t v):gz w' P t v:=by
 unfold gz at h;split at h
 ·rename_i c _ a _ n nm E l r xs;have p:=gz.kept h1 (P:=P) l;have x:=gz.kept h1 (P:=P) r;have D:=gz.kept h1 (P:=P) xs;have k:∀(b:Nat)(v:jU)(t:TypeId),t≠60->v≠.nilFunc->w.heap[b]?=some (jC #[v] t)->w'.heap[b]?=some (jC #[v] t):=λb v t z A B=>h1 _ _ _ z (λ_=>by simpa using λe=>A e.symm) B;rw[gz];rcases h with⟨e,bx,d,f⟩|⟨e,bx,d,f⟩|⟨e,bx,bl,u,vl,vr,d,f,i,o,m,j⟩|⟨e,bl,vl,d,f,i⟩|⟨e,s,bx,C,g,q,d,f,i,o,m,j⟩|⟨e,bl,vl,d,f,i⟩|⟨e,bl,vl,d,f,i⟩|⟨e,bl,u,vl,vr,d,i,o,m,j⟩|⟨e,s,d,f⟩
  ·exact .inl ⟨e,bx,d,f.kept h1⟩
  ·exact .inr (.inl ⟨e,bx,d,f.kept h1⟩)
  ·exact .inr (.inr (.inl ⟨e,bx,bl,u,vl,vr,d,f.kept h1,k _ _ _ (by decide) m.isf i,k _ _ _ (by decide) j.isf o,p _ m,x _ j⟩))
  ·exact .inr (.inr (.inr (.inl ⟨e,bl,vl,d,k _ _ _ (by decide) i.isf f,p _ i⟩)))
  ·exact .inr (.inr (.inr (.inr (.inl ⟨e,s,bx,C,g,q,d,k _ _ _ (by decide) (by simp) f,i.kept h1,k _ _ _ (by decide) (by simp) o,h1 _ _ _ (by decide) (λ_=>gz.row _ j) m,D _ j⟩))))
  ·exact .inr (.inr (.inr (.inr (.inr (.inl ⟨e,bl,vl,d,k _ _ _ (by decide) i.isf f,p _ i⟩)))))
  ·exact .inr (.inr (.inr (.inr (.inr (.inr (.inl ⟨e,bl,vl,d,k _ _ _ (by decide) i.isf f,p _ i⟩))))))
  ·exact .inr (.inr (.inr (.inr (.inr (.inr (.inr (.inl ⟨e,bl,u,vl,vr,d,k _ _ _ (by decide) m.isf i,k _ _ _ (by decide) j.isf o,p _ m,x _ j⟩)))))))
  ·exact .inr (.inr (.inr (.inr (.inr (.inr (.inr (.inr ⟨e,s,d,k _ _ _ (by decide) (by simp) f⟩)))))))
 ·obtain⟨y,q,d,f,i⟩:=h;rw[gz];exact⟨y,q,d,gz.kept h1 _ _ f,gz.kept h1 _ _ i⟩
 ·rw[gz];exact h
 ·exact h.elim
theorem gz.below(h:gz w P t v)(a:az w w'):gz w' P t v:=gz.kept (Ks.below a) t v h
theorem fH(a:az w w')(h:ej S w t v):ej S w' t v:=ej.kept (λb cs t _ _ hk=>by rw[a.block b (aC.1 hk).1];exact hk) t v h
theorem Ks.set'{b:Nat}{a:Array Value}{t:TypeId}(c:t=245\/t=67)(d:w.heap[b]?=some (.cells a t))(f:Value.nilFunc∈a):Ks w (w.setCell (jB b i) v):=λg cs h _ hc hk=>by
 have j:g≠b:=λe=>by
  subst e;rw[d]at hk;injection hk with hk;injection hk with h1 h2;subst h1;subst h2;exact hc c f
 rw[aG _ _ _ _ j];exact hk
theorem Ks.set{b:Nat}{t:TypeId}(a:w.heap[b]?=some (jC #[.nilFunc] t))(c:t=245\/t=67:=by decide):Ks w (w.setCell (jA b) v):=Ks.set' c a (by simp)
theorem ke{B:Nat}{a b:jW}(h:Below B a.drew b):Below B a b:=⟨h.os,h.tape,h.output,h.size,h.block⟩
theorem late(a:az w w1)(b:gz w1 P l u):(w1.alloc (jC #[u] 245)).heap[w1.heap.size]?=some (jC #[u] 245)/\gz (w1.alloc (jC #[u] 245)) P l u/\az w (w1.alloc (jC #[u] 245)):=
 ⟨heap_alloc_last _ _,b.below ((aJ _ _).alloc (aD _) _),a.alloc a.size _⟩
theorem early{a:jW}(b:az w a)(c:Below (a.alloc (jC #[.nilFunc] 245)).heap.size (a.alloc (jC #[.nilFunc] 245)) w1)(d:gz w1 P l u):(w1.setCell (jA a.heap.size) u).heap[a.heap.size]?=some (jC #[u] 245)/\gz (w1.setCell (jA a.heap.size) u) P l u/\az w (w1.setCell (jA a.heap.size) u):=by
 have e:w1.heap[a.heap.size]?=some (jC #[.nilFunc] 245):=by rw[c.block _ (by simp)];exact heap_alloc_last _ _
 exact⟨aH _ _ _ _ _ _ e,gz.kept (Ks.set e) _ _ d,((b.alloc b.size _).trans (c.mono (by have:=b.size;simp;omega))).setCell (p:=(jA a.heap.size)) b.size _⟩
def xK(P:Nat)(t:Tr)(w:jW)(e:Ending)(w':jW):Prop:=∃k a,e=jR (.func (.func k) #[] a)/\gz w' P t (.func (.func k) #[] a)/\az w w'
def oP(t:Tr):Prop:=∀(S:Nat->Prop)(w:jW)(P:Nat)(v:jU),ej S w t v->aA 138 #[ptr P,v] w (xK P t w)
theorem iz{c a:Int}(h:ej S w (nd c a n nm b l r g) v):
  ∃(q:Nat)(vl vr d:jU)(e:jE),v=ptr q/\w.heap[q]?=some (jC #[jV c,jV a,jV n,str nm,str b,vl,vr,d] 252)/\ej S w l vl/\ej S w r vr/\w.ownsRow 0 145 1 d e.length e/\ej S w g (.tuple e.toArray):=by
 rw[ej]at h;obtain⟨q,vl,vr,d,e,_,h2,f,i,j,k,_,m⟩:=h;exact⟨q,vl,vr,d,e,h2,f,i,j,k,m⟩
theorem IC(w:jW)(A B:Obj):((w.alloc A).alloc B).heap[w.heap.size]?=some A:=ez (heap_alloc_last w A) B
theorem zE(w:jW)(A B:Obj):((w.alloc A).alloc B).heap[w.heap.size+1]?=some B:=by
 have:=heap_alloc_last (w.alloc A) B;simpa using this
theorem lU(w:jW)(A B:Obj):az w ((w.alloc A).alloc B):=((aJ _ _).alloc (aD _) _).alloc (by simp) _
theorem zb:∀(a:Fn)(first b:Array Value)(w:jW),(Instr.makeFunc a first b).run Tryz.prog w= .ok (.func a first b) w:=λ_ _ _ _=>rfl
theorem Ox{a:Int}:oP (nd 1 a n nm b l r g):=by
 intro S w P v c;obtain⟨q,vl,vr,d,e,rfl,f,-,-,-,-⟩:=iz c;have h:=zb;have j:=jc 0 f;have k:=jI f;have m:q<w.heap.size:=(aC.1 f).1;clear c f;go_enter Tryz.func138,Tryz.ntmps138;go_wp2;go_ret;exact⟨_,_,rfl,by rw[gz];exact .inl ⟨rfl,_,rfl,q,vl,vr,d,zE _ _ _,ez (ez k _) _⟩,lU _ _ _⟩
theorem Kd{a:Int}:oP (nd 2 a n nm b l r g):=by
 intro S w P v c;obtain⟨q,vl,vr,d,e,rfl,f,-,-,-,-⟩:=iz c;have h:=zb;have j:=jc 0 f;have k:=jI f;have m:q<w.heap.size:=(aC.1 f).1;clear c f;go_enter Tryz.func138,Tryz.ntmps138;go_wp2;go_ret;exact⟨_,_,rfl,by rw[gz];exact .inr (.inl ⟨rfl,_,rfl,q,vl,vr,d,zE _ _ _,ez (ez k _) _⟩),lU _ _ _⟩
theorem Ff{a:Int}:oP (nd 9 a n nm b l r g):=by
 intro S w P v c;obtain⟨q,vl,vr,d,e,rfl,f,-,-,-,-⟩:=iz c;have h:=zb;have j:=jc 0 f;have k:=jI f;have m:q<w.heap.size:=(aC.1 f).1;clear c f;go_enter Tryz.func138,Tryz.ntmps138;go_wp2;go_ret;exact⟨_,_,rfl,by rw[gz];exact .inr (.inr (.inr (.inr (.inr (.inr (.inr (.inr ⟨rfl,_,rfl,IC _ _ _⟩))))))),lU _ _ _⟩
theorem hZ(a:fw t)(h:ej S w t v):∃b,v=ptr b:=fw.ptr a h
theorem Oy{a:Int}{c:By}(d:oP l)(f:fw l):oP (nd 6 a n nm c l r g):=by
 intro S w P v j;obtain⟨q,vl,vr,k,m,rfl,s,t,-,-,-⟩:=iz j;obtain⟨u,rfl⟩:=hZ f t;have x:=zb;have y:=jc 0 s;have z:=jc 5 s;have A:=jI s;have B:q<w.heap.size:=(aC.1 s).1;have C:Hid (∀W,az w W->aA 138 #[ptr P,ptr u] W (xK P l W)):=λW D=>d S W P _ (fH D t);clear j s t;go_enter Tryz.func138,Tryz.ntmps138
 go_wp2_with fail
 obtain⟨E,F⟩:=aB ((w.alloc (.cells #[ptr P] 57)).alloc (.cells #[ptr q] 145));have G:Hid (az w E):=by rw[F];exact lU _ _ _
 have H:Hid (E.heap.size=w.heap.size+2):=by rw[F];simp[Hid]
 have I:E.cell? ⟨w.heap.size,0,none⟩=some (ptr P):=by rw[F];exact jc 0 (IC _ _ _)
 have J:E.cell? ⟨w.heap.size+1,0,none⟩=some (ptr q):=by rw[F];exact jc 0 (zE _ _ _)
 have K:E.cell? ⟨q,5,none⟩=some (ptr u):=by rw[F];exact jc 5 (ez (ez A _) _)
 have L:w.heap.size+1<E.heap.size:=by have:=H.out;omega
 have M:w.heap.size<E.heap.size:=by omega
 have N:q<E.heap.size:=by omega
 have O:w.heap.size≠E.heap.size:=by omega
 have Q:w.heap.size+1≠E.heap.size:=by omega
 have T:q≠E.heap.size:=by omega
 rw[<-F];clear F y z
 go_region_held3(λw'=>w'.cell? ⟨w.heap.size,0,none⟩=some (ptr P)/\w'.cell? ⟨w.heap.size+1,0,none⟩=some (ptr q)/\w'.cell? ⟨q,5,none⟩=some (ptr u))
  (first|go_keep|(refine⟨?_,?_,?_⟩<;>first|(go_simp;done)|(simp[*];done)|(rw[bq (by intro e;injection e;omega)];assumption)))
  (first|(go_at_call 138;refine(C _ (by first|exact G.drew|exact(G.alloc (by have:=H.out;omega) _).drew|exact(G.drew.alloc (by have:=H.out;simp;omega) _))).mono ?_;rintro e w1 ⟨U,V,rfl,Y,Z⟩;have c:=λb o h=>Z.cell (p:=⟨b,o,none⟩) h;have k:=λb o h=>Z.frozen (p:=⟨b,o,none⟩) h;have m:w1.cell? ⟨w.heap.size,0,none⟩=some (ptr P):=(c _ _ (by first|(simp;done)|(simp;omega))).trans (by go_simp);have f:w1.cell? ⟨w.heap.size+1,0,none⟩=some (ptr q):=(c _ _ (by first|(simp;done)|(simp;omega))).trans (by go_simp);have x:w1.cell? ⟨q,5,none⟩=some (ptr u):=(c _ _ (by first|(simp;done)|(simp;omega))).trans (by go_simp);have B:=Z.size;simp at B;have d:w.heap.size<w1.heap.size:=(by omega);have j:w.heap.size+1<w1.heap.size:=(by omega);have s:q<w1.heap.size:=(by omega)))
 all_goals first
  |(obtain⟨t,D,I⟩:=late (G.trans ((ke Z).mono G.size)) Y;clear c k;have J:Hid (_/\_/\_):=⟨t,D,I⟩;clear t D I;go_wp2;go_ret;obtain⟨t,D,I⟩:=J.out;exact⟨_,_,rfl,by rw[gz];exact .inr (.inr (.inr (.inr (.inr (.inl ⟨rfl,_,_,rfl,t,D⟩))))),I⟩)
  |(obtain⟨t,D,I⟩:=early G (ke Z) Y;clear c k;have J:Hid (_/\_/\_):=⟨t,D,I⟩;clear t D I;go_wp2;go_ret;obtain⟨t,D,I⟩:=J.out;exact⟨_,_,rfl,by rw[gz];exact .inr (.inr (.inr (.inr (.inr (.inl ⟨rfl,_,_,rfl,t,D⟩))))),I⟩)
end Go.Proofs.YtnfhpdbbfejioaaGreatDoor
namespace Go.Proofs.YtnfhpdbbfejioaaGreatDoor.Mid
open Go Go.RowKit
variable {b P d:Nat}{a:jU}{E:Nat->Prop}{w1 w w' w0:jW}
abbrev kz(k:Int):Ending:= .panicked [{v:= .iface 116 (jV k),recovered:=false}]
theorem eQ(k:Int)(w:jW):aA 78 #[jV k] w λe w'=>e=kz k/\w'=w:=by
 go_enter Tryz.func78,Tryz.ntmps78;go_wp2;exact⟨rfl,rfl,rfl⟩
structure Sg where
 fuel:Int
 inp:List Int
 out:List Int
 hp:List (List Int)
abbrev ld(α:Type):=Sg->Except (Int×List Int) (α×Sg)
def gp{α:Type}(a:α):ld α:=λs=> .ok (a,s)
def gb{α β:Type}(x:ld α)(f:α->ld β):ld β:=λs=>
 match x s with
 | .error e=> .error e
 | .ok (a,b)=>f a b
def gt{α:Type}(w:Int):ld α:=λs=> .error (w,s.out)
def Dr:ld Unit:=λs=>if s.fuel<=0 then .error (6,s.out) else .ok ((),{s with fuel:=s.fuel-1})
def lO(n:Int):ld Unit:=λs=>if 200<=s.out.length then .error (7,s.out) else .ok ((),{s with out:=s.out++[n]})
def rE:ld Int:=λs=> .ok (s.inp.headD 0,{s with inp:=s.inp.tail})
def qj(n:Int):ld Vl:=λs=>if n<0\/40<n then .error (4,s.out) else .ok ((0,some s.hp.length),{s with hp:=s.hp++[List.replicate n.toNat 0]})
def ie(s:Sg):Option Nat->List Int
 |none=>[]
 |some i=>s.hp.getD i []
def zX(q:Option Nat):ld Int:=λs=> .ok (((ie s q).length:Int),s)
def lQ(q:Option Nat)(i:Int):ld Int:=λs=>if i<0\/((ie s q).length:Int)<=i then .error (3,s.out) else .ok ((ie s q).getD i.toNat 0,s)
def qm(q:Option Nat)(i n:Int):ld Unit:=λs=>if i<0\/((ie s q).length:Int)<=i then .error (3,s.out) else .ok ((),{s with hp:=s.hp.modify (q.getD 0) (λl=>l.set i.toNat n)})
theorem fP{α b:Type}{x:ld α}{f:α->ld b}{s:Sg}(h:∀out,gb x f s≠.error (99,out)):(∀out,x s≠.error (99,out))/\∀a c,x s= .ok (a,c)->∀out,f a c≠.error (99,out):=by
 refine⟨λout e=>h out ?_,λa c e out d=>h out ?_⟩
 ·unfold gb;rw[e]
 ·unfold gb;rw[e];exact d
theorem ft{α b:Type}{x:ld α}{f:α->ld b}{s s1:Sg}{a:α}(h:x s= .ok (a,s1)):gb x f s=f a s1:=by unfold gb;rw[h]
theorem gS{α a:Type}{x:ld α}{f:α->ld a}{s:Sg}{e:Int×List Int}(h:x s= .error e):gb x f s= .error e:=by unfold gb;rw[h]
theorem tN{s:Sg}(h:s.fuel<=0):Dr s= .error (6,s.out):=if_pos h
theorem oC{s:Sg}(h:¬s.fuel<=0):Dr s= .ok ((),{s with fuel:=s.fuel-1}):=if_neg h
structure Rs where
 ab:List (Nat×Nat)
 iv:jU
 ov:jU
 s:Sg
def Xs(P:Nat)(r:Rs)(b:Nat):Prop:=b=P\/b∈r.ab.map (·.1)\/r.ov.ownBlock=some b
structure Sm (w0:jW) (P:Nat) (fv:jU) (w:jW) (r:Rs) (d:Nat):Prop where
 lt:P<w0.heap.size
 le:w0.heap.size<=w.heap.size
 kp:∀b,b<w0.heap.size->b≠P->w.heap[b]?=w0.heap[b]?
 pb:w.heap[P]?=some (jC #[fv,r.iv,r.ov,jV r.s.fuel,jV (d:Int)] 115)
 inp:Mo w0 P r.iv r.s.inp
 out:w.ownsRow w0.heap.size 2 1 r.ov r.s.out.length (fI r.s.out)
 apart:∀i,r.ov.ownBlock=some i->i∉r.ab.map (·.1)
 alen:r.ab.length=r.s.hp.length
 arr:∀(i b n:Nat),r.ab[i]?=some (b,n)->∃l,r.s.hp[i]?=some l/\l.length=n/\n<=40/\w.heap[b]?=some (jC (fI l).toArray 2)
 lo:∀b∈r.ab.map (·.1),w0.heap.size<=b
 nd:(r.ab.map (·.1)).Nodup
 few: -9223372036854775808<=r.s.fuel/\r.s.fuel<=10000000
 told:r.s.out.length<=200
 deep:d<=40
structure Fz (P:Nat) (E:Nat->Prop) (w:jW) (r:Rs) (w':jW) (r':Rs):Prop where
 os:w'.os=w.os
 tape:w'.tape=w.tape
 output:w'.output=w.output
 size:w.heap.size<=w'.heap.size
 blk:∀b,b<w.heap.size->¬Xs P r b->¬E b->w'.heap[b]?=w.heap[b]?
 pre:r.ab<+:r'.ab
 new:∀b,Xs P r' b->¬Xs P r b->w.heap.size<=b
theorem Fz.refl(P:Nat)(E:Nat->Prop)(w:jW)(r:Rs):Fz P E w r w r:=⟨rfl,rfl,rfl,aD _,λ_ _ _ _=>rfl,aN,λb h1 h2=>absurd h1 h2⟩
theorem Fz.trans{a c:jW}{d e r3:Rs}(h:Fz P E w1 d a e)(g:Fz P E a e c r3):Fz P E w1 d c r3:=by
 refine⟨g.os.trans h.os,g.tape.trans h.tape,g.output.trans h.output,aP h.size g.size,λb f i j=>?_,h.pre.trans g.pre,λb k h1=>?_⟩
 ·rw[g.blk b (aO f h.size) (λh2=>by have:=h.new b h2 i;omega) j,h.blk b f i j]
 ·by_cases h2:Xs P e b
  ·exact h.new b h2 h1
  ·exact aP h.size (g.new b k h2)
theorem Fz.wide{a:Nat->Prop}{r r':Rs}(h:Fz P E w r w' r')(c:∀b,E b->a b):Fz P a w r w' r':=⟨h.os,h.tape,h.output,h.size,λb d f g=>h.blk b d f (λe=>g (c b e)),h.pre,h.new⟩
theorem Fz.no{r r':Rs}(h:Fz P iL w r w' r'):Fz P E w r w' r':=h.wide (λ_ h=>h.elim)
theorem Fz.below{r:Rs}(h:az w w'):Fz P E w r w' r:=⟨h.os,h.tape,h.output,h.size,λb a _ _=>h.block b a,aN,λb h1 h2=>absurd h1 h2⟩
theorem Sm.below{r:Rs}(h:Sm w0 P a w r d)(c:az w w'):Sm w0 P a w' r d:=by
 have e:=aO h.lt h.le;refine⟨h.lt,aP h.le c.size,λb h1 h2=>?_,?_,h.inp,fX h.out (λi f=>c.block i (lT h.out i f)),h.apart,h.alen,λi b n f=>?_,h.lo,h.nd,h.few,h.told,h.deep⟩
 ·rw[c.block b (aO h1 h.le)];exact h.kp b h1 h2
 ·rw[c.block P e];exact h.pb
 ·obtain⟨l,g,j,k,m⟩:=h.arr i b n f;exact⟨l,g,j,k,by rw[c.block b (aC.1 m).1];exact m⟩
theorem Sm.ltP{r:Rs}(h:Sm w0 P a w r d):P<w.heap.size:=aO h.lt h.le
theorem Sm.old{r:Rs}(h:Sm w0 P a w r d){cs:Array Value}{t:TypeId}(c:w0.heap[b]?=some (.cells cs t))(f:∃ds,w0.heap[P]?=some (.cells ds 115))(g:t≠115):w.heap[b]?=some (.cells cs t):=by
 obtain⟨ds,hd⟩:=f;rw[h.kp b (aC.1 c).1 (λe=>?_),c];subst e;rw[hd]at c;injection c with c;injection c with _ h2;exact g h2.symm
structure Cx where
 w0:jW
 P:Nat
 fv:jU
theorem Sm.ne{r:Rs}(h:Sm w0 P a w r d)(c:b∈r.ab.map (·.1)):b≠P:=by
 have:=h.lo b c;have:=h.lt;omega
theorem Sm.setP{r:Rs}(h:Sm w0 P a w r d){i:Nat}{v:jU}(r':Rs)(c:Nat)(f:(#[a,r.iv,r.ov,jV r.s.fuel,jV (d:Int)]:Array Value).setIfInBounds i v=#[a,r'.iv,r'.ov,jV r'.s.fuel,jV (c:Int)])
  (g:r'.ab=r.ab) (j:r'.s.hp=r.s.hp) (m:r'.ov=r.ov) (o:r'.s.out=r.s.out) (p:Mo w0 P r'.iv r'.s.inp) (q: -9223372036854775808<=r'.s.fuel/\r'.s.fuel<=10000000) (hd:c<=40):
  Sm w0 P a (w.setCell (jB P i) v) r' c/\Fz P iL w r (w.setCell (jB P i) v) r':=by
 have t:∀b,b≠P->(w.setCell (jB P i) v).heap[b]?=w.heap[b]?:=λb u=>aG _ _ _ _ u;have x:(w.setCell (jB P i) v).heap.size=w.heap.size:=by simp
 have y:∀b,Xs P r' b↔Xs P r b:=λb=>by unfold Xs;rw[g,m]
 refine⟨⟨h.lt,by rw[x];exact h.le,λb h1 h2=>by rw[t b h2];exact h.kp b h1 h2,?_,p,?_,?_,by rw[g,j];exact h.alen,?_,by rw[g];exact h.lo,by rw[g];exact h.nd,q,by rw[o];exact h.told,hd⟩,⟨rfl,rfl,rfl,by rw[x];exact aD _,λb _ z _=>t b (λe=>z (.inl e)),by rw[g];exact aN,λb h1 h2=>absurd ((y b).1 h1) h2⟩⟩
 ·rw[aH _ _ _ _ _ _ h.pb,f]
 ·rw[m,o];refine fX h.out (λk hk=>t k (λe=>?_));have:=(h.out.lt k hk).1;have:=h.lt;omega
 ·rw[m,g];exact h.apart
 ·intro k b n hk;rw[g]at hk;obtain⟨l,A,B,C,D⟩:=h.arr k b n hk;refine⟨l,by rw[j];exact A,B,C,?_⟩;rw[t b (h.ne (aT.2 ⟨(b,n),aM hk,rfl⟩))];exact D
def Rs.fuel1(r:Rs):Rs:={r with s:={r.s with fuel:=r.s.fuel-1}}
def Pq(X:Cx)(w:jW)(r:Rs)(d:Nat)(e:Ending)(w':jW):Prop:=
 (r.s.fuel<=0/\e=kz 6/\w'=w)\/(¬r.s.fuel<=0/\e=jR (.tuple #[])/\Sm X.w0 X.P X.fv w' r.fuel1 d/\Fz X.P iL w r w' r.fuel1)
theorem r8(X:Cx)(w:jW)(r:Rs)(d:Nat)(h:Sm X.w0 X.P X.fv w r d):aA 79 #[ptr X.P] w (Pq X w r d):=by
 have a:w.cell? (jB X.P 3)=some (jV r.s.fuel):=jc 3 h.pb;have b:=ea h.pb 3;have c:=jI h;have f:=h.few;obtain⟨fu,g⟩:∃fu,r.s.fuel=fu:=⟨_,rfl⟩;have j:=jI g;rw[g]at a f;clear h g;by_cases k:fu<=0
 ·go_enter Tryz.func79,Tryz.ntmps79
  go_wp2_with(go_at_call 78;refine(eQ _ _).mono ?_;rintro e w' ⟨rfl,rfl⟩)
  exact⟨rfl,.inl ⟨by rw[j.out];exact k,rfl,rfl⟩⟩
 ·go_enter Tryz.func79,Tryz.ntmps79
  go_wp2_with(go_at_call 78;fail)
  go_end0;have l:r.fuel1.s.fuel=fu-1:=by show r.s.fuel-1=fu-1;rw[j.out]
  obtain⟨m,n⟩:=c.setP (i:=3) (v:=jV (fu-1)) r.fuel1 d (by rw[l];rfl) rfl rfl rfl rfl c.inp (by rw[l];omega) c.deep;exact .inr ⟨by rw[j.out];omega,rfl,m,n⟩
def T6(b l:Nat)(i:Int)(w:jW)(e:Ending)(w':jW):Prop:=(((i<0\/(l:Int)<=i)/\e=kz 3)\/(0<=i/\i<l/\e=jR (jQ (some (jB b i.toNat)))))/\w'=w
theorem n7(b l c:Nat)(i:Int)(w:jW)(a:l<=40):aA 81 #[jL (some (jA b)) l c,jV i] w (T6 b l i w):=by
 by_cases d:i<0
 ·go_enter Tryz.func81,Tryz.ntmps81
  go_wp2_with(go_at_call 78;refine(eQ _ _).mono ?_;rintro e w' ⟨rfl,rfl⟩)
  exact⟨rfl,.inl ⟨.inl d,rfl⟩,rfl⟩
 ·by_cases h1:i<l
  ·go_enter Tryz.func81,Tryz.ntmps81
   go_wp2_with(go_at_call 78;refine(eQ _ _).mono ?_;rintro e w' ⟨rfl,rfl⟩)
   go_ret;exact⟨.inr ⟨by omega,h1,rfl⟩,rfl⟩
  ·go_enter Tryz.func81,Tryz.ntmps81
   go_wp2_with(go_at_call 78;refine(eQ _ _).mono ?_;rintro e w' ⟨rfl,rfl⟩)
   exact⟨rfl,.inl ⟨.inr (by omega),rfl⟩,rfl⟩
theorem qq(i:Int)(w:jW):aA 81 #[jS,jV i] w λe w'=>e=kz 3/\w'=w:=by
 by_cases a:i<0
 ·go_enter Tryz.func81,Tryz.ntmps81
  go_wp2_with(go_at_call 78;refine(eQ _ _).mono ?_;rintro e w' ⟨rfl,rfl⟩)
  exact⟨rfl,rfl,rfl⟩
 ·have h1:0<=i:=by omega
  go_enter Tryz.func81,Tryz.ntmps81
  go_wp2_with(go_at_call 78;refine(eQ _ _).mono ?_;rintro e w' ⟨rfl,rfl⟩)
  exact⟨rfl,rfl,rfl⟩
theorem wb(n:Nat)(a:n<=40)(w:jW):(Instr.makeSlice 22 (jV (n:Int)) (jV (n:Int))).run Tryz.prog w= .ok (jL (some (jA w.heap.size)) n n) (w.alloc (jC (fI (List.replicate n 0)).toArray 2)):=by
 obtain⟨i,b,c,d,e⟩:=info_parts AW;have:=cQ w 22 2 i _ Tryz.underlying22 b c .i64 .i64 (n:Int) (n:Int) (by omega) (by omega) (by rw[d];simp;omega) (by rw[e];omega) (by omega);rw[d]at this;simp only[aR,sD]at this;exact this
def T7(n:Int)(w:jW)(e:Ending)(w':jW):Prop:=((n<0\/40<n)/\e=kz 4/\w'=w)\/(0<=n/\n<=40/\e=jR (jL (some (jA w.heap.size)) n.toNat n.toNat)/\w'=w.alloc (jC (fI (List.replicate n.toNat 0)).toArray 2))
theorem rh(n:Int)(w:jW):aA 117 #[jV n] w (T7 n w):=by
 by_cases a:n<0
 ·go_enter Tryz.func117,Tryz.ntmps117
  go_wp2_with(go_at_call 78;refine(eQ _ _).mono ?_;rintro e w' ⟨rfl,rfl⟩)
  exact⟨rfl,.inl ⟨.inl a,rfl,rfl⟩⟩
 ·by_cases h1:40<n
  ·go_enter Tryz.func117,Tryz.ntmps117
   go_wp2_with(go_at_call 78;refine(eQ _ _).mono ?_;rintro e w' ⟨rfl,rfl⟩)
   exact⟨rfl,.inl ⟨.inr h1,rfl,rfl⟩⟩
  ·obtain⟨m,rfl⟩:∃m:Nat,n=m:=⟨n.toNat,by omega⟩;have h2:m<=40:=by omega
   have b:=wb m h2;clear a;go_enter Tryz.func117,Tryz.ntmps117
   go_wp2_with(go_at_call 78;fail)
   go_ret;exact .inr ⟨by omega,by omega,by simp,by simp⟩
def Rs.take1(r:Rs)(iv:jU):Rs:={r with iv:=iv,s:={r.s with inp:=r.s.inp.tail}}
def RQ(X:Cx)(w:jW)(r:Rs)(d:Nat)(e:Ending)(w':jW):Prop:=
 ∃a,e=jR (jV (r.s.inp.headD 0))/\Sm X.w0 X.P X.fv w' (r.take1 a) d/\Fz X.P iL w r w' (r.take1 a)
theorem tO{X:Cx}{r:Rs}{x:Int}{xs:List Int}(h:Sm X.w0 X.P X.fv w r d)(b:r.s.inp=x::xs)(c:Mo X.w0 X.P a xs):RQ X w r d (jR (jV x)) (w.setCell (jB X.P 1) a):=by
 obtain⟨e,f⟩:=h.setP (i:=1) (v:=a) (r.take1 a) d rfl rfl rfl rfl rfl (by show Mo _ _ _ r.s.inp.tail;rw[b];exact c) h.few h.deep;exact⟨a,by rw[b];rfl,e,f⟩
theorem tP(X:Cx)(w:jW)(r:Rs)(d:Nat)(h:Sm X.w0 X.P X.fv w r d):aA 118 #[ptr X.P] w (RQ X w r d):=by
 obtain⟨q,c,b,f⟩:=h.inp;have k:=jc 1 h.pb;have l:=ea h.pb 1;have n:=jI h;have p:=jI b;cases t:r.s.inp with
 |nil=>
  have u:=jI t;have v:w.cell? (jB X.P 1)=some (jL q 0 c):=by rw[k];show some r.iv=_;rw[b,t];rfl
  clear h k f b t;go_enter Tryz.func118,Tryz.ntmps118;go_wp2;go_ret;have e:r.take1 r.iv=r:=by
   have z:=u.out;unfold Rs.take1;rw[z];cases r with
   |mk A B C s=>
    cases s with
    |mk D inp out E=>
     have F:=z;subst F;rfl
  refine⟨r.iv,by rw[u.out];rfl,?_,?_⟩
  ·rw[e];exact n
  ·rw[e];exact Fz.refl _ _ _ _
 |cons x xs=>
  rw[t]at f b;rcases f with f|⟨g,o,rfl,G,H,hc,I⟩
  ·cases f
  have J:w.cell? (jB g o)=some (jV x):=by
   have:=I 0 x rfl;rw[cn]at this;rw[<-this];exact bB (a:=(jB g o)) (h.kp g G H)
  obtain⟨cc,rfl⟩:∃cc,c=cc+1:=⟨c-1,by simp at hc;omega⟩;have v:w.cell? (jB X.P 1)=some (jL (some (jB g o)) (xs.length+1) (cc+1)):=by rw[k];show some r.iv=_;rw[b];rfl
  have u:=jI t;have K:=jI I;have L:Hid (g<X.w0.heap.size/\g≠X.P/\xs.length<=cc):=⟨G,H,by simp at hc;omega⟩;obtain⟨m,M⟩:=aB xs.length;rw[<-M]at v;have N:=jI M;have O:m<=cc:=by rw[M];exact L.out.2.2
  clear h k b t I hc G H M;go_enter Tryz.func118,Tryz.ntmps118;go_wp2
  ·go_ret;have M:=N.out
   refine tO n u ⟨_,_,by rw[M],.inl ?_⟩;have:xs.length=0:=by omega
   exact bS.1 this
  ·go_ret;have M:=N.out
   refine tO n u ⟨_,_,by rw[M],.inr ⟨g,o+1,rfl,L.out.1,L.out.2.1,L.out.2.2,λj y Q=>?_⟩⟩;have:=K (j+1) y Q;rw[show o+1+j=o+(j+1) by omega];exact this
def Rs.tell1(r:Rs)(ov:jU)(n:Int):Rs:={r with ov:=ov,s:={r.s with out:=r.s.out++[n]}}
def Np(X:Cx)(w:jW)(r:Rs)(d:Nat)(n:Int)(e:Ending)(w':jW):Prop:=
 (200<=r.s.out.length/\e=kz 7/\w'=w)\/(r.s.out.length<200/\e=jR (.tuple #[])/\∃a,Sm X.w0 X.P X.fv w' (r.tell1 a n) d/\Fz X.P iL w r w' (r.tell1 a n))
theorem zh{X:Cx}{r:Rs}{n:Int}{g a m:Nat}(h:Sm X.w0 X.P X.fv w r d)(c:m=r.s.out.length)(h2:m<200)(A:Obj)(f:w1.ownsRow X.w0.heap.size 2 1 (jL (some (jA g)) (m+1) a) (m+1) (fI r.s.out++[jV n]))(o:(w.alloc A).grownBy w1 r.ov.ownBlock)(q:r.ov.ownBlock=some g\/g=w.heap.size+1):
  Np X w r d n (jR (.tuple #[])) (w1.setCell (jB X.P 2) (jL (some (jA g)) (m+1) a)):=by
 have t:w.heap.size+1<=w1.heap.size:=by have:=o.size;simpa using this
 have u:∀i,r.ov.ownBlock=some i->X.w0.heap.size<=i/\i<w.heap.size:=λi v=>h.out.lt i v;have hk:∀b,b<w.heap.size->r.ov.ownBlock≠some b->w1.heap[b]?=w.heap[b]?:=λb x y=>by
  rw[o.block b (by simp;omega) (λe=>y e.symm),ed x]
 have z:X.P≠g:=by
  have:=h.lt;have:=h.ltP;rcases q with q|rfl
  ·have:=(u g q).1;omega
  ·omega
 have B:w1.heap[X.P]?=some (jC #[X.fv,r.iv,r.ov,jV r.s.fuel,jV (d:Int)] 115):=by
  rw[hk X.P h.ltP (λe=>by have:=(u _ e).1;have:=h.lt;omega)];exact h.pb
 have C:∀b,b≠X.P->(w1.setCell (jB X.P 2) (jL (some (jA g)) (m+1) a)).heap[b]?=w1.heap[b]?:=λb x=>aG _ _ _ _ x;have D:(w1.setCell (jB X.P 2) (jL (some (jA g)) (m+1) a)).heap.size=w1.heap.size:=by simp
 refine .inr ⟨by omega,rfl,jL (some (jA g)) (m+1) a,?_,?_⟩
 ·refine⟨h.lt,by rw[D];have:=h.le;omega,λb h1 h2=>?_,?_,h.inp,?_,?_,h.alen,?_,h.lo,h.nd,h.few,?_,h.deep⟩
  ·rw[C b h2,hk b (aO h1 h.le) (λe=>by have:=(u _ e).1;omega)];exact h.kp b h1 h2
  ·exact aH _ _ _ _ _ _ B
  ·have E:(r.tell1 (jL (some (jA g)) (m+1) a) n).s.out=r.s.out++[n]:=rfl;have F:(r.s.out++[n]).length=m+1:=by rw[c];simp
   rw[E,F,show fI (r.s.out++[n])=fI r.s.out++[jV n] by simp[fI]];exact fX f (λi v=>C i (λe=>z (by rw[<-e];injection v with v;exact v.symm)))
  ·intro i v;have e:i=g:=by injection v with v;exact v.symm
   subst e;rcases q with q|rfl
   ·exact h.apart i q
   ·intro G;obtain⟨p,H,e⟩:=aT.1 G;obtain⟨j,I⟩:=a7 H;obtain⟨l,_,_,_,J⟩:=h.arr j p.1 p.2 I;have:=(aC.1 J).1;omega
  ·intro i b k v;obtain⟨l,K,L,M,J⟩:=h.arr i b k v;refine⟨l,K,L,M,?_⟩;have G:b∈r.ab.map (·.1):=aT.2 ⟨(b,k),aM v,rfl⟩;rw[C b (h.ne G),hk b (aC.1 J).1 (λe=>h.apart b e G)];exact J
  ·show(r.s.out++[n]).length<=200;simp;omega
 ·refine⟨o.os,o.tape,o.output,by rw[D];omega,λb x N _=>?_,aN,λb N O=>?_⟩
  ·rw[C b (λe=>N (.inl e)),hk b x (λe=>N (.inr (.inr e)))]
  ·rcases N with N|N|N
   ·exact absurd (.inl N) O
   ·exact absurd (.inr (.inl N)) O
   ·have e:b=g:=by injection N with N;exact N.symm
    subst e;rcases q with q|rfl
    ·exact absurd (.inr (.inr q)) O
    ·omega
theorem mi(X:Cx)(w:jW)(r:Rs)(d:Nat)(n:Int)(h:Sm X.w0 X.P X.fv w r d):aA 80 #[ptr X.P,jV n] w (Np X w r d n):=by
 obtain⟨q,c,a⟩:=eh h.out;have b:w.cell? (jB X.P 2)=some r.ov:=jc 2 h.pb;have f:=ea h.pb 2;rw[a]at b;have g:=jI h;have j:=h.ltP;have k:=h.told;obtain⟨m,l⟩:=aB r.s.out.length;have o:=jI l;have p:Hid (r.ov=jL q m c):=by rw[l];exact a
 rw[<-l]at b k;have v:Hid (w.ownsRow X.w0.heap.size 2 1 (jL q m c) m (fI r.s.out)):=by have:=h.out;rw[a,<-l]at this;exact this
 clear h a l;by_cases h2:200<=m
 ·go_enter Tryz.func80,Tryz.ntmps80
  go_wp2_with(go_at_call 78;refine(eQ _ _).mono ?_;rintro e w' ⟨rfl,rfl⟩)
  exact⟨rfl,.inl ⟨by have:=o.out;omega,rfl,rfl⟩⟩
 ·obtain⟨x,y,z,A,B⟩:=info_parts AW;have C:Hid ((w.alloc (jC #[jV n] 2)).ownsRow X.w0.heap.size 2 1 (jL q m c) m (fI r.s.out)):=v.alloc _;have D:=jI (World.news_of_block (cs:=#[jV n]) (t:=2) (fr:=(0,0)) (heap_alloc_last w _));have E:Hid (∀u∈([jV n]:jE),u.oneCell'=true):=λu F=>by simp at F;subst F;rfl
  have G:Hid (X.w0.heap.size<=(w.alloc (jC #[jV n] 2)).heap.size):=by have:=g.le;show _<=_;simp;omega
  go_enter Tryz.func80,Tryz.ntmps80
  go_wp2_with(at_builtin;refine wpList_append_lies _ rfl _ _ 22 rfl X.w0.heap.size 2 x _ 1 8 Tryz.underlying22 y z A B rfl (by decide) _ m _ rfl C (jA w.heap.size) 1 1 [jV n] rfl rfl D E (by decide) (by unfold maxLen;omega) (by omega) G (w.heap.size+1) (by simp) ?_)
  intro H I J K L M N;have O:J.heap[X.P]?=some (jC #[X.fv,r.iv,r.ov,jV r.s.fuel,jV (d:Int)] 115):=by
   rw[L.block X.P (by simp;omega) (λe=>?_),ed j]
   ·exact g.pb
   ·have:=(v.lt X.P e.symm).1;have:=g.lt;omega
  have Q:=jc 2 O;have S:=ea O 2;have T:Hid (Np X w r d n (jR (.tuple #[])) (J.setCell (jB X.P 2) (jL (some (jA H)) (m+1) I))):=zh g o (by omega) _ K (by rw[p.out];exact L) (by rw[p.out];exact M);clear K L M N O;go_wp2;go_end0;exact T
end Go.Proofs.YtnfhpdbbfejioaaGreatDoor.Mid
