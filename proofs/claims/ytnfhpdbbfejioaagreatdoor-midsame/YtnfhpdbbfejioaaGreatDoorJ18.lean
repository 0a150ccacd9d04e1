/- HC HD HE HF HG -/
import Derived.Test.YtnfhpdbbfejioaaGreatDoorJ17
import Derived.Test.YtnfhpdbbfejioaaGreatDoorJ04
set_option linter.unusedVariables false
set_option linter.unusedSimpArgs false
set_option maxRecDepth 100000
set_option maxHeartbeats 16000000
namespace Go.Proofs.YtnfhpdbbfejioaaGreatDoor
open Go Go.RowKit
theorem gc{S:Nat->Prop}{w w':jW}(a:az w w'):eJ S w w':=λb cs t _ _ hk=>by rw[a.block b (aC.1 hk).1];exact hk
structure Nj (S:Nat->Prop) (w:jW) (b o:Nat) (c a:Int) (nm:By) (ix v th el:Tr) (vi vv:jO) (vt ve:jU):Prop where
 cells:∃cs,w.heap[b]?=some (.cells cs 147)/\cs[o]?=some (jV c)/\cs[o+2]?=some (str nm)/\cs[o+3]?=some (jQ vi)/\cs[o+4]?=some (jQ vv)/\cs[o+5]?=some vt/\cs[o+6]?=some ve
 ix:ej S w ix (jQ vi)
 v:ej S w v (jQ vv)
 th:∃nt ts,fy S w 147 7 vt nt ts/\ey S w th ts
 el:∃ne es,fy S w 147 7 ve ne es/\ey S w el es
theorem Nj.below{S:Nat->Prop}{w w':jW}{b o:Nat}{c a:Int}{nm:By}{d v e el:Tr}{f g:jO}{i ve:jU}(h:Nj S w b o c a nm d v e el f g i ve)(j:az w w'):Nj S w' b o c a nm d v e el f g i ve:=by
 obtain⟨⟨cs,h1,h2⟩,l,m,⟨nt,ts,n,p⟩,⟨q,r,s,t⟩⟩:=h;have k:=gc (S:=S) j;exact⟨⟨cs,by rw[j.block b (aC.1 h1).1];exact h1,h2⟩,fH j l,fH j m,⟨nt,ts,n.kept k (by decide),ey.kept k _ _ p⟩,⟨q,r,s.kept k (by decide),ey.kept k _ _ t⟩⟩
def DU(P:Nat)(x:Tr)(w:jW)(e:Ending)(w':jW):Prop:=∃k a,e=jR (.func (.func k) #[] a)/\kL w' P (cc x ce) [.func (.func k) #[] a]/\az w w'
def QG(x:Tr):Prop:=∀(c a:Int)(nm:By)(d v e el:Tr),x=st c a nm d v e el->∀(S:Nat->Prop)(w:jW)(P b o:Nat)(f g:jO)(h i:jU),Nj S w b o c a nm d v e el f g h i->aA 86 #[ptr P,jQ (some (jB b o))] w (DU P x w)
def S6(P:Nat)(t:Tr)(w:jW)(e:Ending)(w':jW):Prop:=∃a,e=jR (.func (.func 87) #[] a)/\pK w' P t (.func (.func 87) #[] a)/\az w w'
def IQ(t:Tr):Prop:=∀(S:Nat->Prop)(w:jW)(P:Nat)(v:jU)(n:Nat)(cs:jE),fy S w 147 7 v n cs->ey S w t cs->aA 53 #[ptr P,v] w (S6 P t w)
theorem gf{a:Region.Mode}{b:Array Oper}{i:Nat}{o:Oper}{c:Array Bool}(d:i∈Region.ready a b c)(f:b[i]?=some o):c.getD i true=false/\∀e∈o.after,Region.binds a e=true->c.getD e.on false=true:=by
 obtain⟨g,h,j,k⟩:=mem_ready.1 d;rw[f]at j;injection j with e;subst e;exact⟨g,k⟩
structure sg (W0:jW) (P:Nat) (v th el:Tr) (c1 c2 c3 a1 a2 a3:Bool) (x13 x19 x25 x5 x6 x7:jU) (w:jW):Prop where
 bel:az W0 w
 o2:c2=true->c1=true
 o3:c3=true->c2=true
 e1:c1=true->(∃k cap,x13= .func (.func k) #[] cap)/\gz w P v x13
 e2:c2=true->pK w P th x19
 e3:c3=true->pK w P el x25
 b1:a1=true->∃b,x5=ptr b/\W0.heap.size<=b/\w.heap[b]?=some (jC #[.nilFunc] 245)
 b2:a2=true->∃b,x6=ptr b/\W0.heap.size<=b/\w.heap[b]?=some (jC #[.nilFunc] 67)
 b3:a3=true->∃b,x7=ptr b/\W0.heap.size<=b/\w.heap[b]?=some (jC #[.nilFunc] 67)
 ne:a2=true->a3=true->x6≠x7
theorem fR{w w':jW}{b:Nat}{o:Obj}(a:az w w')(h:w.heap[b]?=some o):w'.heap[b]?=some o:=by
 rw[a.block b (aC.1 h).1];exact h
theorem sg.below{a:jW}{P:Nat}{v c el:Tr}{d f g i j k:Bool}{l m n o p q:jU}{w w':jW}(h:sg a P v c el d f g i j k l m n o p q w)(r:az w w'):sg a P v c el d f g i j k l m n o p q w':=by
 refine⟨h.bel.trans (r.mono h.bel.size),h.o2,h.o3,λe=>⟨(h.e1 e).1,(h.e1 e).2.below r⟩,λe=>(h.e2 e).below r,λe=>(h.e3 e).below r,λe=>?_,λe=>?_,λe=>?_,h.ne⟩
 ·obtain⟨b,s,t,u⟩:=h.b1 e;exact⟨b,s,t,fR r u⟩
 ·obtain⟨b,s,t,u⟩:=h.b2 e;exact⟨b,s,t,fR r u⟩
 ·obtain⟨b,s,t,u⟩:=h.b3 e;exact⟨b,s,t,fR r u⟩
theorem sg.call1{a:jW}{P:Nat}{v b el:Tr}{c d e f g i:Bool}{j l m n o p:jU}{w w':jW}(h:sg a P v b el c d e f g i j l m n o p w)(r:az w w'){k:Nat}{s:Array Value}(hc:gz w' P v (.func (.func k) #[] s)):sg a P v b el true d e f g i (.func (.func k) #[] s) l m n o p w':=
 let q:=h.below r
 ⟨q.bel,λ_=>rfl,q.o3,λ_=>⟨⟨k,s,rfl⟩,hc⟩,q.e2,q.e3,q.b1,q.b2,q.b3,q.ne⟩
theorem sg.call2{a:jW}{P:Nat}{v b el:Tr}{c d e f g i:Bool}{j k l m n o:jU}{w w':jW}(h:sg a P v b el c d e f g i j k l m n o w)(h1:c=true)(p:az w w'){u:jU}(hc:pK w' P b u):sg a P v b el c true e f g i j u l m n o w':=
 let q:=h.below p
 ⟨q.bel,λ_=>h1,λ_=>rfl,q.e1,λ_=>hc,q.e3,q.b1,q.b2,q.b3,q.ne⟩
theorem sg.call3{a:jW}{P:Nat}{v b el:Tr}{c d e f g i:Bool}{j k l m n o:jU}{w w':jW}(h:sg a P v b el c d e f g i j k l m n o w)(h1:d=true)(p:az w w'){u:jU}(hc:pK w' P el u):sg a P v b el c d true f g i j k u m n o w':=
 let q:=h.below p
 ⟨q.bel,q.o2,λ_=>h1,q.e1,q.e2,λ_=>hc,q.b1,q.b2,q.b3,q.ne⟩
theorem ik(w:jW)(A:Obj):az w (w.alloc A):=(aJ _ _).alloc (aD _) A
theorem sg.new1{a:jW}{P:Nat}{v b el:Tr}{c d e f g i:Bool}{j k l m n o:jU}{w:jW}(h:sg a P v b el c d e f g i j k l m n o w):sg a P v b el c d e true g i j k l (ptr w.heap.size) n o (w.alloc (jC #[.nilFunc] 245)):=
 let q:=h.below (ik w (jC #[.nilFunc] 245))
 ⟨q.bel,q.o2,q.o3,q.e1,q.e2,q.e3,λ_=>⟨_,rfl,h.bel.size,heap_alloc_last _ _⟩,q.b2,q.b3,q.ne⟩
theorem wE{w:jW}{b:Nat}{o:Obj}(h:w.heap[b]?=some o):ptr b≠ptr w.heap.size:=λe=>by
 have:=(aC.1 h).1;injection e with e;injection e with e;injection e with e;omega
theorem sg.new2{a:jW}{P:Nat}{v c el:Tr}{d f g i j k:Bool}{l m n o p r:jU}{w:jW}(h:sg a P v c el d f g i j k l m n o p r w):sg a P v c el d f g i true k l m n o (ptr w.heap.size) r (w.alloc (jC #[.nilFunc] 67)):=
 let q:=h.below (ik w (jC #[.nilFunc] 67))
 ⟨q.bel,q.o2,q.o3,q.e1,q.e2,q.e3,q.b1,λ_=>⟨_,rfl,h.bel.size,heap_alloc_last _ _⟩,q.b3,λ_ e=>by obtain⟨b,rfl,_,s⟩:=h.b3 e;exact(wE s).symm⟩
theorem sg.new3{a:jW}{P:Nat}{v c el:Tr}{d f g i j k:Bool}{l m n o p r:jU}{w:jW}(h:sg a P v c el d f g i j k l m n o p r w):sg a P v c el d f g i j true l m n o p (ptr w.heap.size) (w.alloc (jC #[.nilFunc] 67)):=
 let q:=h.below (ik w (jC #[.nilFunc] 67))
 ⟨q.bel,q.o2,q.o3,q.e1,q.e2,q.e3,q.b1,q.b2,λ_=>⟨_,rfl,h.bel.size,heap_alloc_last _ _⟩,λe _=>by obtain⟨b,rfl,_,s⟩:=h.b2 e;exact wE s⟩
theorem sg.stored{c:jW}{P:Nat}{v d el:Tr}{f g i:jU}{j b6 b7:Nat}{w:jW}(h:sg c P v d el true true true true true true f g i (ptr j) (ptr b6) (ptr b7) w):
  let w3:=((w.setCell (jA j) f).setCell (jA b6) g).setCell (jA b7) i
  w3.heap[j]?=some (jC #[f] 245)/\w3.heap[b6]?=some (jC #[g] 67)/\w3.heap[b7]?=some (jC #[i] 67)/\gz w3 P v f/\pK w3 P d g/\pK w3 P el i/\az c w3:=by
 intro w3;have k:∀{a b:Nat},ptr a=ptr b->a=b:=λe=>by injection e with e;injection e with e;injection e
 obtain⟨_,l,m,n⟩:=h.b1 rfl;obtain rfl:=k l;obtain⟨_,o,q,r⟩:=h.b2 rfl;obtain rfl:=k o;obtain⟨_,s,t,u⟩:=h.b3 rfl;obtain rfl:=k s;have x:j≠b6:=λe=>by subst e;rw[n]at r;injection r with r;injection r with _ r;cases r
 have y:j≠b7:=λe=>by subst e;rw[n]at u;injection u with u;injection u with _ u;cases u
 have z:b6≠b7:=λe=>h.ne rfl rfl (by rw[e]);have A:Ks w (w.setCell (jA j) f):=Ks.set n;have B:(w.setCell (jA j) f).heap[b6]?=some (jC #[.nilFunc] 67):=by rw[aG _ _ _ _ x.symm];exact r
 have C:Ks (w.setCell (jA j) f) ((w.setCell (jA j) f).setCell (jA b6) g):=Ks.set B;have D:((w.setCell (jA j) f).setCell (jA b6) g).heap[b7]?=some (jC #[.nilFunc] 67):=by rw[aG _ _ _ _ z.symm,aG _ _ _ _ y.symm];exact u
 have E:Ks ((w.setCell (jA j) f).setCell (jA b6) g) w3:=Ks.set D;have F:(w.setCell (jA j) f).heap[j]?=some (jC #[f] 245):=aH _ _ _ _ _ _ n;have G:((w.setCell (jA j) f).setCell (jA b6) g).heap[b6]?=some (jC #[g] 67):=aH _ _ _ _ _ _ B;refine⟨?_,?_,aH _ _ _ _ _ _ D,gz.kept E _ _ (gz.kept C _ _ (gz.kept A _ _ (h.e1 rfl).2)),pK.kept E (pK.kept C (pK.kept A (h.e2 rfl))),pK.kept E (pK.kept C (pK.kept A (h.e3 rfl))),?_⟩
 ·show(World.setCell _ _ _).heap[j]?=_;rw[aG _ _ _ _ y,aG _ _ _ _ x];exact F
 ·show(World.setCell _ _ _).heap[b6]?=_;rw[aG _ _ _ _ z];exact G
 ·exact((h.bel.setCell (p:=(jA j)) m _).setCell (p:=(jA b6)) q _).setCell (p:=(jA b7)) t _
abbrev A_(a b c d e f:Bool):Array Bool:=#[true,true,true,true,true,a,true,true,true,true,true,b,true,true,true,true,true,c,d,e,f,false,false,false]
abbrev Tq(P b o a nt c d e:Nat)(f g:jO)(h i j k l m:jU):Act:={tmps:=#[ptr P,jQ (some (jB b o)),undef,undef,.nilFunc,k,l,m,ptr P,jQ (some (jB b o)),jQ (some (jB b o)),jQ (some (jB b (o+4))),ptr a,h,ptr P,jQ (some (jB b o)),jQ (some (jB b o)),jQ (some (jB b (o+5))),jL f nt c,i,ptr P,jQ (some (jB b o)),jQ (some (jB b o)),jQ (some (jB b (o+6))),jL g d e,j,undef],defers:=[]}
theorem xD{a:Int}{nm:By}{ix v th el:Tr}(hv:oP v)(A2:fw v)(ht:IQ th)(he:IQ el)(S:Nat->Prop)(w:jW)(P b o:Nat)(vi vv:jO)(vt ve:jU)(h:Nj S w b o 4 a nm ix v th el vi vv vt ve):aA 136 #[ptr P,jQ (some (jB b o))] w (DU P (st 4 a nm ix v th el) w):=by
 obtain⟨qv,V⟩:=hZ A2 h.v;injection V with V;subst V;have A8:=jI h;obtain⟨⟨cs,h1,_,_,_,k4,k5,k6⟩,_,_,⟨nt,ts,h5,h6⟩,⟨ne,es,h7,h8⟩⟩:=h;obtain⟨pt,ct,rfl⟩:∃p c,vt=jL p nt c:=by
  rcases h5.1.2 with⟨rfl,rfl⟩|⟨g,A5,A4,rfl,_⟩
  ·exact⟨_,_,rfl⟩
  ·exact⟨_,_,rfl⟩
 obtain⟨pe,c9,rfl⟩:∃p c,ve=jL p ne c:=by
  rcases h7.1.2 with⟨rfl,rfl⟩|⟨g,A5,A4,rfl,_⟩
  ·exact⟨_,_,rfl⟩
  ·exact⟨_,_,rfl⟩
 have C:b<w.heap.size:=(aC.1 h1).1;have G:Hid (∀W,az w W->W.cell? (jB b (o+4))=some (ptr qv)/\W.cell? (jB b (o+5))=some (jL pt nt ct)/\W.cell? (jB b (o+6))=some (jL pe ne c9)):=λW L=>by
  have hB:=fR L h1;exact⟨eo hB k4,eo hB k5,eo hB k6⟩
 obtain⟨A7,A6,A9⟩:=j3 (λW (L:az w W)=>hv S W P _ (fH L A8.v)) (λW (L:az w W)=>ht S W P _ nt ts (h5.kept (gc L) (by decide)) (ey.kept (gc L) _ _ h6)) (λW (L:az w W)=>he S W P _ ne es (h7.kept (gc L) (by decide)) (ey.kept (gc L) _ _ h8));have B1:=zb;clear h1 k4 k5 k6 h5 h6 h7 h8 hv A2 ht he;go_enter Tryz.func136,Tryz.ntmps136
 go_upto_region 1 with fail
 go_cut [5,6,7] (λv5 v6 v7 U=>∃D b6 b7 l k m,v5=ptr D/\v6=ptr b6/\v7=ptr b7/\Hid (U.heap[D]?=some (jC #[l] 245)/\U.heap[b6]?=some (jC #[k] 67)/\U.heap[b7]?=some (jC #[m] 67)/\gz U P v l/\pK U P th k/\pK U P el m/\az w U))
 case first=>
  refine wp_region_held_drew (S:=λw'=>w'.cell? (jB b (o+4))=some (ptr qv)/\w'.cell? (jB b (o+5))=some (jL pt nt ct)/\w'.cell? (jB b (o+6))=some (jL pe ne c9)) (by kernel_rfl) ?_ (λd=>?_)
  ·exact G _ (aJ _ _).drew
  refine iW 0 d ?_;simp only[Act.put,zS];refine iW 1 d ?_;simp only[Act.put,zS];refine iW 2 d ?_;simp only[Act.put,zS];refine iW 3 d ?_;simp only[Act.put,zS];refine iW 4 d ?_;simp only[Act.put,zS];refine iW 6 d ?_;simp only[Act.put,zS];refine iW 7 d ?_;simp only[Act.put,zS];refine iW 8 d ?_;simp only[Act.put,zS];refine iW 9 d ?_;simp only[Act.put,zS];refine iW 10 d ?_;simp only[Act.put,zS];refine iW 12 d ?_;simp only[Act.put,zS];refine iW 13 d ?_;simp only[Act.put,zS];refine iW 14 d ?_;simp only[Act.put,zS];refine iW 15 d ?_;simp only[Act.put,zS];refine iW 16 d ?_;simp only[Act.put,zS];refine lD (stop:=A_ true true true true true true) (n:=3) (I:=λt a' w'=>∃y A z x u B l k m F H J,t=A_ y A z x u B/\a'=Tq P b o qv nt ct ne c9 pt pe l k m F H J/\sg w P v th el y A z x u B l k m F H J w') rfl ?step ?stop ?cnt _ _ _ _ ⟨false,false,false,false,false,false,undef,undef,undef,undef,undef,undef,by kernel_rfl,rfl,?beg⟩ (by kernel_rfl) (by first|omega|decide)
  case beg=>exact⟨(aJ _ _).drew,λe=>(by cases e),λe=>(by cases e),λe=>(by cases e),λe=>(by cases e),λe=>(by cases e),λe=>(by cases e),λe=>(by cases e),λe=>(by cases e),λe=>(by cases e)⟩
  case cnt=>
   rintro t a' w' ⟨y,A,z,x,u,B,l,k,m,F,H,J,rfl,_,_⟩ hc
   revert hc
   cases y<;>cases A<;>cases z<;>cases x<;>cases u<;>cases B<;>first|exact λ_=>rfl|exact λh=>absurd h (by decide)
  case step=>
   rintro t a' w' ⟨y,A,z,x,u,B,l,k,m,F,H,J,rfl,rfl,r⟩ hs;refine⟨?_,λi Z=>?_⟩
   ·have o2:=r.o2;have o3:=r.o3;clear r
    revert hs o2 o3
    cases y<;>cases A<;>cases z<;>cases x<;>cases u<;>cases B<;>first|exact λ_ _ _=>by decide+kernel|exact λh _ _=>absurd rfl h|exact λ_ h _=>absurd (h rfl) (by decide)|exact λ_ _ h=>absurd (h rfl) (by decide)
   ·obtain⟨h0,o',A0,-⟩:=mem_ready.1 Z;have A1:i<24:=(aC.1 A0).1;clear A0 o';have A3:i=5\/i=11\/i=17\/i=18\/i=19\/i=20\/i=21\/i=22\/i=23:=by
     have hd:∀j:Fin 24,(j.val=5\/j.val=11\/j.val=17\/j.val=18\/j.val=19\/j.val=20\/j.val=21\/j.val=22\/j.val=23)\/(A_ y A z x u B).getD j.val true=true:=by
      cases y<;>cases A<;>cases z<;>cases x<;>cases u<;>cases B<;>decide+kernel
     rcases hd ⟨i,A1⟩ with h|h
     ·exact h
     ·rw[h0]at h;cases h
    clear A1 h0;rcases A3 with rfl|rfl|rfl|rfl|rfl|rfl|rfl|rfl|rfl
    ·refine wpOp_step (o:={dst:=some 13,op:=Op.call {callee:=Callee.value (Operand.func 138),args:=#[Operand.tmp 8,Operand.tmp 12],argTypes:=#[57,145]},type:=245,pos:= "stmt.go:56",after:=#[⟨0,.data⟩,⟨4,.data⟩],guard:=none}) rfl (fun K s=>?_)
     go_simp
     refine(A7 w' r.bel).mono ?_;rintro e w1 ⟨k1,T,rfl,E,C⟩;have f:=r.call1 C E;exact s _ _ ⟨G _ f.bel,true,A,z,x,u,B,_,k,m,F,H,J,rfl,rfl,f⟩
    ·have Y:y=true:=(gf Z (o:={dst:=some 19,op:=Op.call {callee:=Callee.value (Operand.func 53),args:=#[Operand.tmp 14,Operand.tmp 18],argTypes:=#[57,84]},type:=67,pos:= "stmt.go:56",after:=#[⟨6,.data⟩,⟨10,.data⟩,⟨5,.chain⟩],guard:=none}) rfl).2 ⟨5,.chain⟩ (by simp) rfl;refine wpOp_step (o:={dst:=some 19,op:=Op.call {callee:=Callee.value (Operand.func 53),args:=#[Operand.tmp 14,Operand.tmp 18],argTypes:=#[57,84]},type:=67,pos:= "stmt.go:56",after:=#[⟨6,.data⟩,⟨10,.data⟩,⟨5,.chain⟩],guard:=none}) rfl (fun K s=>?_)
     go_simp
     refine(A6 w' r.bel).mono ?_;rintro e w1 ⟨T,rfl,E,C⟩;have f:=r.call2 Y C E;exact s _ _ ⟨G _ f.bel,y,true,z,x,u,B,l,_,m,F,H,J,rfl,rfl,f⟩
    ·have Y:A=true:=(gf Z (o:={dst:=some 25,op:=Op.call {callee:=Callee.value (Operand.func 53),args:=#[Operand.tmp 20,Operand.tmp 24],argTypes:=#[57,84]},type:=67,pos:= "stmt.go:56",after:=#[⟨12,.data⟩,⟨16,.data⟩,⟨11,.chain⟩],guard:=none}) rfl).2 ⟨11,.chain⟩ (by simp) rfl;refine wpOp_step (o:={dst:=some 25,op:=Op.call {callee:=Callee.value (Operand.func 53),args:=#[Operand.tmp 20,Operand.tmp 24],argTypes:=#[57,84]},type:=67,pos:= "stmt.go:56",after:=#[⟨12,.data⟩,⟨16,.data⟩,⟨11,.chain⟩],guard:=none}) rfl (fun K s=>?_)
     go_simp
     refine(A9 w' r.bel).mono ?_;rintro e w1 ⟨T,rfl,E,C⟩;have f:=r.call3 Y C E;exact s _ _ ⟨G _ f.bel,y,A,true,x,u,B,l,k,_,F,H,J,rfl,rfl,f⟩
    ·refine wpOp_step (o:={dst:=some 5,op:=Op.alloc 245,type:=0,pos:= "stmt.go:56",after:=#[],guard:=none}) rfl (fun K s=>?_)
     go_simp
     have f:=r.new1;exact s _ _ ⟨G _ f.bel,y,A,z,true,u,B,l,k,m,_,H,J,rfl,rfl,f⟩
    ·refine wpOp_step (o:={dst:=some 6,op:=Op.alloc 67,type:=0,pos:= "stmt.go:56",after:=#[],guard:=none}) rfl (fun K s=>?_)
     go_simp
     have f:=r.new2;exact s _ _ ⟨G _ f.bel,y,A,z,x,true,B,l,k,m,F,_,J,rfl,rfl,f⟩
    ·refine wpOp_step (o:={dst:=some 7,op:=Op.alloc 67,type:=0,pos:= "stmt.go:56",after:=#[],guard:=none}) rfl (fun K s=>?_)
     go_simp
     have f:=r.new3;exact s _ _ ⟨G _ f.bel,y,A,z,x,u,true,l,k,m,F,H,_,rfl,rfl,f⟩
    ·exfalso;have ra:=(gf Z (o:={dst:=none,op:=Op.store 245 (Operand.tmp 5) (Operand.tmp 13),type:=0,pos:= "stmt.go:56",after:=#[⟨18,.data⟩,⟨5,.data⟩,⟨17,.chain⟩,⟨0,.phase⟩,⟨1,.phase⟩,⟨2,.phase⟩,⟨3,.phase⟩,⟨4,.phase⟩,⟨5,.phase⟩,⟨6,.textOnly .lateStores⟩,⟨7,.textOnly .lateStores⟩,⟨8,.textOnly .lateStores⟩,⟨9,.textOnly .lateStores⟩,⟨10,.textOnly .lateStores⟩,⟨11,.textOnly .lateStoresUnsure⟩,⟨12,.textOnly .lateStores⟩,⟨13,.textOnly .lateStores⟩,⟨14,.textOnly .lateStores⟩,⟨15,.textOnly .lateStores⟩,⟨16,.textOnly .lateStores⟩,⟨17,.textOnly .lateStoresUnsure⟩,⟨18,.phase⟩,⟨19,.phase⟩,⟨20,.phase⟩],guard:=none}) rfl).2;have q3:z=true:=ra ⟨17,.chain⟩ (by simp) rfl;have q2:=r.o3 q3;have Y:=r.o2 q2;have r1:x=true:=ra ⟨18,.phase⟩ (by simp) rfl;have r2:u=true:=ra ⟨19,.phase⟩ (by simp) rfl;have r3:B=true:=ra ⟨20,.phase⟩ (by simp) rfl;subst Y q2 q3 r1 r2 r3;exact hs rfl
    ·have q:false=true:=(gf Z (o:={dst:=none,op:=Op.store 67 (Operand.tmp 6) (Operand.tmp 19),type:=0,pos:= "stmt.go:56",after:=#[⟨19,.data⟩,⟨11,.data⟩,⟨21,.chain⟩,⟨0,.phase⟩,⟨1,.phase⟩,⟨2,.phase⟩,⟨3,.phase⟩,⟨4,.phase⟩,⟨5,.phase⟩,⟨6,.phase⟩,⟨7,.phase⟩,⟨8,.phase⟩,⟨9,.phase⟩,⟨10,.phase⟩,⟨11,.phase⟩,⟨12,.textOnly .lateStores⟩,⟨13,.textOnly .lateStores⟩,⟨14,.textOnly .lateStores⟩,⟨15,.textOnly .lateStores⟩,⟨16,.textOnly .lateStores⟩,⟨17,.textOnly .lateStoresUnsure⟩,⟨18,.phase⟩,⟨19,.phase⟩,⟨20,.phase⟩,⟨21,.phase⟩],guard:=none}) rfl).2 ⟨21,.chain⟩ (by simp) rfl;cases q
    ·have q:false=true:=(gf Z (o:={dst:=none,op:=Op.store 67 (Operand.tmp 7) (Operand.tmp 25),type:=0,pos:= "stmt.go:56",after:=#[⟨20,.data⟩,⟨17,.data⟩,⟨22,.chain⟩,⟨0,.phase⟩,⟨1,.phase⟩,⟨2,.phase⟩,⟨3,.phase⟩,⟨4,.phase⟩,⟨5,.phase⟩,⟨6,.phase⟩,⟨7,.phase⟩,⟨8,.phase⟩,⟨9,.phase⟩,⟨10,.phase⟩,⟨11,.phase⟩,⟨12,.phase⟩,⟨13,.phase⟩,⟨14,.phase⟩,⟨15,.phase⟩,⟨16,.phase⟩,⟨17,.phase⟩,⟨18,.phase⟩,⟨19,.phase⟩,⟨20,.phase⟩,⟨21,.phase⟩,⟨22,.phase⟩],guard:=none}) rfl).2 ⟨22,.chain⟩ (by simp) rfl;cases q
  case stop=>
   rintro a' w' ⟨y,A,z,x,u,B,l,k,m,F,H,J,O,rfl,r⟩;have B0:y=true/\A=true/\z=true/\x=true/\u=true/\B=true:=by
    simp only[A_,dY,bW,true_and,and_true]at O;exact⟨O.1.symm,O.2.1.symm,O.2.2.1.symm,O.2.2.2.1.symm,O.2.2.2.2.1.symm,O.2.2.2.2.2.symm⟩
   obtain⟨rfl,rfl,rfl,rfl,rfl,rfl⟩:=B0;obtain⟨⟨k1,T,rfl⟩,-⟩:=r.e1 rfl;obtain⟨Y,q2,-,-,rfl,-⟩:=r.e2 rfl;obtain⟨r1,r2,-,-,rfl,-⟩:=r.e3 rfl;obtain⟨D,rfl,l5,g5⟩:=r.b1 rfl;obtain⟨b6,rfl,l6,N⟩:=r.b2 rfl;obtain⟨b7,rfl,l7,M⟩:=r.b3 rfl;have B3:D≠b6:=λe=>by subst e;rw[g5]at N;injection N with N;injection N with _ N;cases N
   have B2:D≠b7:=λe=>by subst e;rw[g5]at M;injection M with M;injection M with _ M;cases M
   have B4:b6≠b7:=λe=>r.ne rfl rfl (by rw[e]);have z5:w'.cell? (jA D)=some .nilFunc:=jc 0 g5;have z6:w'.cell? (jA b6)=some .nilFunc:=jc 0 N;have z7:w'.cell? (jA b7)=some .nilFunc:=jc 0 M;have y5:w'.frozen? (jA D)=false:=by simp[World.frozen?,g5]
   have y6:w'.frozen? (jA b6)=false:=by simp[World.frozen?,N]
   have y7:w'.frozen? (jA b7)=false:=by simp[World.frozen?,M]
   have HF:=jI r.stored;have Q:=jI r.bel;clear r O g5 N M;refine wpAnyH_ready (rs:=[21]) (by kernel_rfl) (by simp) ?_;refine AllReadyH.cons (o:={dst:=none,op:=Op.store 245 (Operand.tmp 5) (Operand.tmp 13),type:=0,pos:= "stmt.go:56",after:=#[⟨18,.data⟩,⟨5,.data⟩,⟨17,.chain⟩,⟨0,.phase⟩,⟨1,.phase⟩,⟨2,.phase⟩,⟨3,.phase⟩,⟨4,.phase⟩,⟨5,.phase⟩,⟨6,.textOnly .lateStores⟩,⟨7,.textOnly .lateStores⟩,⟨8,.textOnly .lateStores⟩,⟨9,.textOnly .lateStores⟩,⟨10,.textOnly .lateStores⟩,⟨11,.textOnly .lateStoresUnsure⟩,⟨12,.textOnly .lateStores⟩,⟨13,.textOnly .lateStores⟩,⟨14,.textOnly .lateStores⟩,⟨15,.textOnly .lateStores⟩,⟨16,.textOnly .lateStores⟩,⟨17,.textOnly .lateStoresUnsure⟩,⟨18,.phase⟩,⟨19,.phase⟩,⟨20,.phase⟩],guard:=none}) rfl (fun K s=>?_) AllReadyH.nil
   go_simp
   refine s _ _ (G _ (Q.setCell (p:=(jA D)) l5 _)) (fun _=>?_);clear s K;refine wpAnyH_ready (rs:=[22]) (by kernel_rfl) (by simp) ?_;refine AllReadyH.cons (o:={dst:=none,op:=Op.store 67 (Operand.tmp 6) (Operand.tmp 19),type:=0,pos:= "stmt.go:56",after:=#[⟨19,.data⟩,⟨11,.data⟩,⟨21,.chain⟩,⟨0,.phase⟩,⟨1,.phase⟩,⟨2,.phase⟩,⟨3,.phase⟩,⟨4,.phase⟩,⟨5,.phase⟩,⟨6,.phase⟩,⟨7,.phase⟩,⟨8,.phase⟩,⟨9,.phase⟩,⟨10,.phase⟩,⟨11,.phase⟩,⟨12,.textOnly .lateStores⟩,⟨13,.textOnly .lateStores⟩,⟨14,.textOnly .lateStores⟩,⟨15,.textOnly .lateStores⟩,⟨16,.textOnly .lateStores⟩,⟨17,.textOnly .lateStoresUnsure⟩,⟨18,.phase⟩,⟨19,.phase⟩,⟨20,.phase⟩,⟨21,.phase⟩],guard:=none}) rfl (fun K s=>?_) AllReadyH.nil
   go_simp
   refine s _ _ (G _ ((Q.setCell (p:=(jA D)) l5 _).setCell (p:=(jA b6)) l6 _)) (fun _=>?_);clear s K;refine wpAnyH_ready (rs:=[23]) (by kernel_rfl) (by simp) ?_;refine AllReadyH.cons (o:={dst:=none,op:=Op.store 67 (Operand.tmp 7) (Operand.tmp 25),type:=0,pos:= "stmt.go:56",after:=#[⟨20,.data⟩,⟨17,.data⟩,⟨22,.chain⟩,⟨0,.phase⟩,⟨1,.phase⟩,⟨2,.phase⟩,⟨3,.phase⟩,⟨4,.phase⟩,⟨5,.phase⟩,⟨6,.phase⟩,⟨7,.phase⟩,⟨8,.phase⟩,⟨9,.phase⟩,⟨10,.phase⟩,⟨11,.phase⟩,⟨12,.phase⟩,⟨13,.phase⟩,⟨14,.phase⟩,⟨15,.phase⟩,⟨16,.phase⟩,⟨17,.phase⟩,⟨18,.phase⟩,⟨19,.phase⟩,⟨20,.phase⟩,⟨21,.phase⟩,⟨22,.phase⟩],guard:=none}) rfl (fun K s=>?_) AllReadyH.nil
   go_simp
   refine s _ _ (G _ (((Q.setCell (p:=(jA D)) l5 _).setCell (p:=(jA b6)) l6 _).setCell (p:=(jA b7)) l7 _)) (λ_=>?_);clear s K;refine wpAnyH_done (by kernel_rfl) ?_ _
   go_wp2_with fail
   go_meet
   exact⟨D,b6,b7,_,_,_,rfl,rfl,rfl,HF⟩
 case rest=>
  obtain⟨D,b6,b7,l,k,m,rfl,rfl,rfl,HF⟩:=hcut;go_wp2;go_ret;obtain⟨f1,f2,f3,f4,⟨x,p1,g1,t1,e1,f5,f6,f7,f8⟩,⟨u,p2,g2,t2,e2,m5,m6,m7,m8⟩,f9⟩:=HF.out
  refine⟨_,_,rfl,?_,f9⟩;rw[kL];exact⟨_,[],rfl,by rw[kL],.inr (.inl ⟨rfl,D,b6,b7,k,m,l,x,u,p1,p2,g1,g2,t1,t2,rfl,f1,f2,f3,f4,e1,f5,f6,f7,f8,e2,m5,m6,m7,m8⟩)⟩
def Ck(Q:jW->jU->Prop):Prop:=(∀w w' u,Ks w w'->Q w u->Q w' u)/\∀w u,Q w u->∃k a,u= .func (.func k) #[] a
structure wz (W0:jW) (Q1 Q2:jW->jU->Prop) (T1 T2:TypeId) (c1 c2 a1 a2:Bool) (x1 x2 x5 x6:jU) (w:jW):Prop where
 bel:az W0 w
 o2:c2=true->c1=true
 e1:c1=true->Q1 w x1
 e2:c2=true->Q2 w x2
 b1:a1=true->∃b,x5=ptr b/\W0.heap.size<=b/\w.heap[b]?=some (jC #[.nilFunc] T1)
 b2:a2=true->∃b,x6=ptr b/\W0.heap.size<=b/\w.heap[b]?=some (jC #[.nilFunc] T2)
 ne:a1=true->a2=true->x5≠x6
section
variable {W0 : World} {Q1 Q2 : World → Value → Prop} {T1 T2 : TypeId} {c1 c2 a1 a2 : Bool} {x1 x2 x5 x6 : Value} {w w' : World}
theorem wz.below(h:wz W0 Q1 Q2 T1 T2 c1 c2 a1 a2 x1 x2 x5 x6 w)(a:Ck Q1)(c:Ck Q2)(d:az w w'):wz W0 Q1 Q2 T1 T2 c1 c2 a1 a2 x1 x2 x5 x6 w':=by
 refine⟨h.bel.trans (d.mono h.bel.size),h.o2,λe=>a.1 _ _ _ (Ks.below d) (h.e1 e),λe=>c.1 _ _ _ (Ks.below d) (h.e2 e),λe=>?_,λe=>?_,h.ne⟩
 ·obtain⟨b,f,g,i⟩:=h.b1 e;exact⟨b,f,g,fR d i⟩
 ·obtain⟨b,f,g,i⟩:=h.b2 e;exact⟨b,f,g,fR d i⟩
theorem wz.call1(h:wz W0 Q1 Q2 T1 T2 c1 c2 a1 a2 x1 x2 x5 x6 w)(a:Ck Q1)(b:Ck Q2)(c:az w w'){u:jU}(hc:Q1 w' u):wz W0 Q1 Q2 T1 T2 true c2 a1 a2 u x2 x5 x6 w':=
 let q:=h.below a b c
 ⟨q.bel,λ_=>rfl,λ_=>hc,q.e2,q.b1,q.b2,q.ne⟩
theorem wz.call2(h:wz W0 Q1 Q2 T1 T2 c1 c2 a1 a2 x1 x2 x5 x6 w)(a:Ck Q1)(b:Ck Q2)(h1:c1=true)(c:az w w'){u:jU}(hc:Q2 w' u):wz W0 Q1 Q2 T1 T2 c1 true a1 a2 x1 u x5 x6 w':=
 let q:=h.below a b c
 ⟨q.bel,λ_=>h1,q.e1,λ_=>hc,q.b1,q.b2,q.ne⟩
theorem wz.new1(h:wz W0 Q1 Q2 T1 T2 c1 c2 a1 a2 x1 x2 x5 x6 w)(a:Ck Q1)(c:Ck Q2):wz W0 Q1 Q2 T1 T2 c1 c2 true a2 x1 x2 (ptr w.heap.size) x6 (w.alloc (jC #[.nilFunc] T1)):=
 let q:=h.below a c (ik w (jC #[.nilFunc] T1))
 ⟨q.bel,q.o2,q.e1,q.e2,λ_=>⟨_,rfl,h.bel.size,heap_alloc_last _ _⟩,q.b2,λ_ e=>by obtain⟨b,rfl,_,d⟩:=h.b2 e;exact(wE d).symm⟩
theorem wz.new2(h:wz W0 Q1 Q2 T1 T2 c1 c2 a1 a2 x1 x2 x5 x6 w)(a:Ck Q1)(c:Ck Q2):wz W0 Q1 Q2 T1 T2 c1 c2 a1 true x1 x2 x5 (ptr w.heap.size) (w.alloc (jC #[.nilFunc] T2)):=
 let q:=h.below a c (ik w (jC #[.nilFunc] T2))
 ⟨q.bel,q.o2,q.e1,q.e2,q.b1,λ_=>⟨_,rfl,h.bel.size,heap_alloc_last _ _⟩,λe _=>by obtain⟨b,rfl,_,d⟩:=h.b1 e;exact wE d⟩
theorem wz.stored{c b6:Nat}(h:wz W0 Q1 Q2 T1 T2 true true true true x1 x2 (ptr c) (ptr b6) w)(d:Ck Q1)(f:Ck Q2)(g:T1=245\/T1=67)(i:T2=245\/T2=67):
  let w2:=(w.setCell (jA c) x1).setCell (jA b6) x2
  w2.heap[c]?=some (jC #[x1] T1)/\w2.heap[b6]?=some (jC #[x2] T2)/\Q1 w2 x1/\Q2 w2 x2/\az W0 w2:=by
 intro w2;have j:∀{a b:Nat},ptr a=ptr b->a=b:=λe=>by injection e with e;injection e with e;injection e
 obtain⟨_,k,l,m⟩:=h.b1 rfl;obtain rfl:=j k;obtain⟨_,n,o,q⟩:=h.b2 rfl;obtain rfl:=j n;have r:c≠b6:=λe=>h.ne rfl rfl (by rw[e]);have s:Ks w (w.setCell (jA c) x1):=Ks.set m g;have t:(w.setCell (jA c) x1).heap[b6]?=some (jC #[.nilFunc] T2):=by rw[aG _ _ _ _ r.symm];exact q
 have u:Ks (w.setCell (jA c) x1) w2:=Ks.set t i;have v:(w.setCell (jA c) x1).heap[c]?=some (jC #[x1] T1):=aH _ _ _ _ _ _ m;refine⟨?_,aH _ _ _ _ _ _ t,d.1 _ _ _ u (d.1 _ _ _ s (h.e1 rfl)),f.1 _ _ _ u (f.1 _ _ _ s (h.e2 rfl)),?_⟩
 ·show(World.setCell _ _ _).heap[c]?=_;rw[aG _ _ _ _ r];exact v
 ·exact(h.bel.setCell (p:=(jA c)) l _).setCell (p:=(jA b6)) o _
end
abbrev QE(P:Nat)(t:Tr):jW->jU->Prop:=λw u=>(∃k a,u= .func (.func k) #[] a)/\gz w P t u
abbrev QB(P:Nat)(t:Tr):jW->jU->Prop:=λw u=>pK w P t u
theorem P_(P:Nat)(t:Tr):Ck (QE P t):=⟨λw w' u k h=>⟨h.1,gz.kept k _ _ h.2⟩,λw u h=>h.1⟩
theorem Ur(P:Nat)(t:Tr):Ck (QB P t):=⟨λw w' u k h=>pK.kept k h,λw u h=>by obtain⟨a,p,g,ts,e,_⟩:=h;exact⟨_,_,e⟩⟩
abbrev rL(a b c d:Bool):Array Bool:=#[true,true,true,true,true,a,true,true,true,true,true,b,c,d,false,false]
def QF(Q:jW->jU->Prop)(w:jW)(e:Ending)(w':jW):Prop:=∃k a,e=jR (.func (.func k) #[] a)/\Q w' (.func (.func k) #[] a)/\az w w'
theorem Us{P:Nat}{t:Tr}{w:jW}{e:Ending}{w':jW}(h:xK P t w e w'):QF (QE P t) w e w':=by
 obtain⟨k,a,e,h1,h2⟩:=h;exact⟨k,a,e,⟨⟨k,a,rfl⟩,h1⟩,h2⟩
theorem ptB{P:Nat}{t:Tr}{w:jW}{e:Ending}{w':jW}(h:S6 P t w e w'):QF (QB P t) w e w':=by
 obtain⟨a,e,h1,h2⟩:=h;exact⟨87,a,e,h1,h2⟩
theorem mY{S:Nat->Prop}{w:jW}{e z n:Nat}{v:jU}{cs:jE}(h:fy S w e z v n cs):∃p c,v=jL p n c:=by
 rcases h.1.2 with⟨rfl,rfl⟩|⟨g,a,b,rfl,_⟩
 ·exact⟨_,_,rfl⟩
 ·exact⟨_,_,rfl⟩
abbrev Sv(P b o a c d:Nat)(e f g h:jU):Act:={tmps:=#[ptr P,jQ (some (jB b o)),undef,ptr d,.nilFunc,g,h,ptr P,jQ (some (jB b o)),jQ (some (jB b o)),jQ (some (jB b (o+3))),ptr a,e,ptr P,jQ (some (jB b o)),jQ (some (jB b o)),jQ (some (jB b (o+4))),ptr c,f,undef],defers:=[]}
theorem Hu{a:Int}{nm:By}{H v th el:Tr}(O:oP H)(Z:fw H)(hv:oP v)(A2:fw v)(S:Nat->Prop)(w:jW)(P b o:Nat)(vi vv:jO)(vt ve:jU)(h:Nj S w b o 3 a nm H v th el vi vv vt ve):aA 135 #[ptr P,jQ (some (jB b o))] w (DU P (st 3 a nm H v th el) w):=by
 obtain⟨qi,M⟩:=hZ Z h.ix;injection M with M;subst M;obtain⟨qv,N⟩:=hZ A2 h.v;injection N with N;subst N;obtain⟨⟨cs,h1,_,k2,k3,k4,_,_⟩,V,A0,_,_⟩:=h;have C:b<w.heap.size:=(aC.1 h1).1;obtain⟨W0,D⟩:=aB (w.alloc (jC #[jQ (some (jB b o))] 186));have x:az w W0:=by rw[D];exact ik _ _
 have g0:W0.heap[w.heap.size]?=some (jC #[jQ (some (jB b o))] 186):=by rw[D];exact heap_alloc_last _ _
 have A4:=jI (jN g0 (jN (fR x h1) (jN k2 x)));have L:Hid (∀W,az W0 W->W.cell? (jA w.heap.size)=some (jQ (some (jB b o)))/\W.cell? (jB b (o+3))=some (ptr qi)/\W.cell? (jB b (o+4))=some (ptr qv)):=λW Q=>by
  have hB:=fR Q (fR x h1);exact⟨jc 0 (fR Q g0),eo hB k3,eo hB k4⟩
 have A6:Hid (∀W,az W0 W->aA 138 #[ptr P,ptr qi] W (QF (QE P H) W)):=λW Q=>(O S W P _ (fH Q (fH x V))).mono λe w' h=>Us h;have A5:Hid (∀W,az W0 W->aA 138 #[ptr P,ptr qv] W (QF (QE P v) W)):=λW Q=>(hv S W P _ (fH Q (fH x A0))).mono λe w' h=>Us h;have y:=jI (P_ P H);have A:=jI (P_ P v);have A9:=zb;clear h1 k2 k3 k4 O Z hv A2 g0 x V A0;go_enter Tryz.func135,Tryz.ntmps135
 go_upto_region 1 with fail
 rw[<-D];clear D
 go_cut [5,6] (λv5 v6 wx=>∃B b6 t z,v5=ptr B/\v6=ptr b6/\Hid (wx.heap[B]?=some (jC #[t] 245)/\wx.heap[b6]?=some (jC #[z] 245)/\QE P H wx t/\QE P v wx z/\az W0 wx))
 case first=>
  refine wp_region_held_drew (S:=λw'=>w'.cell? (jA w.heap.size)=some (jQ (some (jB b o)))/\w'.cell? (jB b (o+3))=some (ptr qi)/\w'.cell? (jB b (o+4))=some (ptr qv)) (by kernel_rfl) ?_ (λc=>?_)
  ·exact L _ (aJ _ _).drew
  refine iW 0 c ?_;simp only[Act.put,zS];refine iW 1 c ?_;simp only[Act.put,zS];refine iW 2 c ?_;simp only[Act.put,zS];refine iW 3 c ?_;simp only[Act.put,zS];refine iW 4 c ?_;simp only[Act.put,zS];refine iW 6 c ?_;simp only[Act.put,zS];refine iW 7 c ?_;simp only[Act.put,zS];refine iW 8 c ?_;simp only[Act.put,zS];refine iW 9 c ?_;simp only[Act.put,zS];refine iW 10 c ?_;simp only[Act.put,zS];refine lD (stop:=rL true true true true) (n:=2) (I:=λf a' w'=>∃k m r l t z F G,f=rL k m r l/\a'=Sv P b o qi qv w.heap.size t z F G/\wz W0 (QE P H) (QE P v) 245 245 k m r l t z F G w') rfl ?step ?stop ?cnt _ _ _ _ ⟨false,false,false,false,undef,undef,undef,undef,by kernel_rfl,rfl,?beg⟩ (by kernel_rfl) (by first|omega|decide)
  case beg=>exact⟨(aJ _ _).drew,λe=>(by cases e),λe=>(by cases e),λe=>(by cases e),λe=>(by cases e),λe=>(by cases e),λe=>(by cases e)⟩
  case cnt=>
   rintro f a' w' ⟨k,m,r,l,t,z,F,G,rfl,_,_⟩ hc
   revert hc
   cases k<;>cases m<;>cases r<;>cases l<;>first|exact λ_=>rfl|exact λh=>absurd h (by decide)
  case step=>
   rintro f a' w' ⟨k,m,r,l,t,z,F,G,rfl,rfl,g⟩ hs;refine⟨?_,λi O=>?_⟩
   ·have o2:=g.o2;clear g
    revert hs o2
    cases k<;>cases m<;>cases r<;>cases l<;>first|exact λ_ _=>by decide+kernel|exact λh _=>absurd rfl h|exact λ_ h=>absurd (h rfl) (by decide)
   ·obtain⟨h0,o',Y,-⟩:=mem_ready.1 O;have A1:i<16:=(aC.1 Y).1;clear Y o';have A3:i=5\/i=11\/i=12\/i=13\/i=14\/i=15:=by
     have hd:∀j:Fin 16,(j.val=5\/j.val=11\/j.val=12\/j.val=13\/j.val=14\/j.val=15)\/(rL k m r l).getD j.val true=true:=by
      cases k<;>cases m<;>cases r<;>cases l<;>decide+kernel
     rcases hd ⟨i,A1⟩ with h|h
     ·exact h
     ·rw[h0]at h;cases h
    clear A1 h0;rcases A3 with rfl|rfl|rfl|rfl|rfl|rfl
    ·refine wpOp_step (o:={dst:=some 12,op:=Op.call {callee:=Callee.value (Operand.func 138),args:=#[Operand.tmp 7,Operand.tmp 11],argTypes:=#[57,145]},type:=245,pos:= "stmt.go:46",after:=#[⟨0,.data⟩,⟨4,.data⟩],guard:=none}) rfl (fun K s=>?_)
     go_simp
     refine(A6 w' g.bel).mono ?_;rintro e w1 ⟨k1,E,rfl,J,C⟩;have d:=g.call1 y A C (u:= .func (.func k1) #[] E) J;exact s _ _ ⟨L _ d.bel,true,m,r,l,_,z,F,G,rfl,rfl,d⟩
    ·have q1:k=true:=(gf O (o:={dst:=some 18,op:=Op.call {callee:=Callee.value (Operand.func 138),args:=#[Operand.tmp 13,Operand.tmp 17],argTypes:=#[57,145]},type:=245,pos:= "stmt.go:46",after:=#[⟨6,.data⟩,⟨10,.data⟩,⟨5,.chain⟩],guard:=none}) rfl).2 ⟨5,.chain⟩ (by simp) rfl;refine wpOp_step (o:={dst:=some 18,op:=Op.call {callee:=Callee.value (Operand.func 138),args:=#[Operand.tmp 13,Operand.tmp 17],argTypes:=#[57,145]},type:=245,pos:= "stmt.go:46",after:=#[⟨6,.data⟩,⟨10,.data⟩,⟨5,.chain⟩],guard:=none}) rfl (fun K s=>?_)
     go_simp
     refine(A5 w' g.bel).mono ?_;rintro e w1 ⟨k1,E,rfl,J,C⟩;have d:=g.call2 y A q1 C (u:= .func (.func k1) #[] E) J;exact s _ _ ⟨L _ d.bel,k,true,r,l,t,_,F,G,rfl,rfl,d⟩
    ·refine wpOp_step (o:={dst:=some 5,op:=Op.alloc 245,type:=0,pos:= "stmt.go:46",after:=#[],guard:=none}) rfl (fun K s=>?_)
     go_simp
     have d:=g.new1 y A;exact s _ _ ⟨L _ d.bel,k,m,true,l,t,z,_,G,rfl,rfl,d⟩
    ·refine wpOp_step (o:={dst:=some 6,op:=Op.alloc 245,type:=0,pos:= "stmt.go:46",after:=#[],guard:=none}) rfl (fun K s=>?_)
     go_simp
     have d:=g.new2 y A;exact s _ _ ⟨L _ d.bel,k,m,r,true,t,z,F,_,rfl,rfl,d⟩
    ·exfalso;have ra:=(gf O (o:={dst:=none,op:=Op.store 245 (Operand.tmp 5) (Operand.tmp 12),type:=0,pos:= "stmt.go:46",after:=#[⟨12,.data⟩,⟨5,.data⟩,⟨11,.chain⟩,⟨0,.phase⟩,⟨1,.phase⟩,⟨2,.phase⟩,⟨3,.phase⟩,⟨4,.phase⟩,⟨5,.phase⟩,⟨6,.textOnly .lateStores⟩,⟨7,.textOnly .lateStores⟩,⟨8,.textOnly .lateStores⟩,⟨9,.textOnly .lateStores⟩,⟨10,.textOnly .lateStores⟩,⟨11,.textOnly .lateStoresUnsure⟩,⟨12,.phase⟩,⟨13,.phase⟩],guard:=none}) rfl).2;have q2:m=true:=ra ⟨11,.chain⟩ (by simp) rfl;have q1:=g.o2 q2;have r1:r=true:=ra ⟨12,.phase⟩ (by simp) rfl;have r2:l=true:=ra ⟨13,.phase⟩ (by simp) rfl;subst q1 q2 r1 r2;exact hs rfl
    ·have q:false=true:=(gf O (o:={dst:=none,op:=Op.store 245 (Operand.tmp 6) (Operand.tmp 18),type:=0,pos:= "stmt.go:46",after:=#[⟨13,.data⟩,⟨11,.data⟩,⟨14,.chain⟩,⟨0,.phase⟩,⟨1,.phase⟩,⟨2,.phase⟩,⟨3,.phase⟩,⟨4,.phase⟩,⟨5,.phase⟩,⟨6,.phase⟩,⟨7,.phase⟩,⟨8,.phase⟩,⟨9,.phase⟩,⟨10,.phase⟩,⟨11,.phase⟩,⟨12,.phase⟩,⟨13,.phase⟩,⟨14,.phase⟩],guard:=none}) rfl).2 ⟨14,.chain⟩ (by simp) rfl;cases q
  case stop=>
   rintro a' w' ⟨k,m,r,l,t,z,F,G,T,rfl,g⟩;have A7:k=true/\m=true/\r=true/\l=true:=by
    simp only[rL,dY,bW,true_and,and_true]at T;exact⟨T.1.symm,T.2.1.symm,T.2.2.1.symm,T.2.2.2.symm⟩
   obtain⟨rfl,rfl,rfl,rfl⟩:=A7;obtain⟨k1,E,rfl⟩:=y.out.2 _ _ (g.e1 rfl);obtain⟨k2,A8,rfl⟩:=A.out.2 _ _ (g.e2 rfl);obtain⟨B,rfl,l5,g5⟩:=g.b1 rfl;obtain⟨b6,rfl,l6,g6⟩:=g.b2 rfl;have B0:B≠b6:=λe=>g.ne rfl rfl (by rw[e]);have z5:w'.cell? (jA B)=some .nilFunc:=jc 0 g5;have z6:w'.cell? (jA b6)=some .nilFunc:=jc 0 g6;have y5:w'.frozen? (jA B)=false:=by simp[World.frozen?,g5]
   have y6:w'.frozen? (jA b6)=false:=by simp[World.frozen?,g6]
   have HF:Hid (_∧_∧_∧_∧_):=g.stored y A (.inl rfl) (by decide);have U:=jI g.bel;clear g T g5 g6;refine wpAnyH_ready (rs:=[14]) (by kernel_rfl) (by simp) ?_;refine AllReadyH.cons (o:={dst:=none,op:=Op.store 245 (Operand.tmp 5) (Operand.tmp 12),type:=0,pos:= "stmt.go:46",after:=#[⟨12,.data⟩,⟨5,.data⟩,⟨11,.chain⟩,⟨0,.phase⟩,⟨1,.phase⟩,⟨2,.phase⟩,⟨3,.phase⟩,⟨4,.phase⟩,⟨5,.phase⟩,⟨6,.textOnly .lateStores⟩,⟨7,.textOnly .lateStores⟩,⟨8,.textOnly .lateStores⟩,⟨9,.textOnly .lateStores⟩,⟨10,.textOnly .lateStores⟩,⟨11,.textOnly .lateStoresUnsure⟩,⟨12,.phase⟩,⟨13,.phase⟩],guard:=none}) rfl (fun K s=>?_) AllReadyH.nil
   go_simp
   refine s _ _ (L _ (U.setCell (p:=(jA B)) l5 _)) (fun _=>?_);clear s K;refine wpAnyH_ready (rs:=[15]) (by kernel_rfl) (by simp) ?_;refine AllReadyH.cons (o:={dst:=none,op:=Op.store 245 (Operand.tmp 6) (Operand.tmp 18),type:=0,pos:= "stmt.go:46",after:=#[⟨13,.data⟩,⟨11,.data⟩,⟨14,.chain⟩,⟨0,.phase⟩,⟨1,.phase⟩,⟨2,.phase⟩,⟨3,.phase⟩,⟨4,.phase⟩,⟨5,.phase⟩,⟨6,.phase⟩,⟨7,.phase⟩,⟨8,.phase⟩,⟨9,.phase⟩,⟨10,.phase⟩,⟨11,.phase⟩,⟨12,.phase⟩,⟨13,.phase⟩,⟨14,.phase⟩],guard:=none}) rfl (fun K s=>?_) AllReadyH.nil
   go_simp
   refine s _ _ (L _ ((U.setCell (p:=(jA B)) l5 _).setCell (p:=(jA b6)) l6 _)) (λ_=>?_);clear s K;refine wpAnyH_done (by kernel_rfl) ?_ _
   go_wp2_with fail
   go_meet
   exact⟨B,b6,_,_,rfl,rfl,HF⟩
 case rest=>
  obtain⟨B,b6,t,z,rfl,rfl,HF⟩:=hcut;go_wp2;go_ret;obtain⟨f1,f2,f3,f4,f5⟩:=HF.out
  obtain⟨g1,g2,g3,g4⟩:=A4.out;refine⟨_,_,rfl,?_,g4.trans (f5.mono g4.size)⟩;rw[kL];exact⟨_,[],rfl,by rw[kL],.inl ⟨rfl,B,b6,w.heap.size,t,z,rfl,f1,f2,⟨b,o,fR f5 g1,cs,fR f5 g2,g3⟩,f3.2,f4.2⟩⟩
abbrev Qa(P b o a nt c d:Nat)(e:jO)(f g h i:jU):Act:={tmps:=#[ptr P,jQ (some (jB b o)),ptr d,undef,.nilFunc,h,i,ptr P,jQ (some (jB b o)),jQ (some (jB b o)),jQ (some (jB b (o+4))),ptr a,f,ptr P,jQ (some (jB b o)),jQ (some (jB b o)),jQ (some (jB b (o+5))),jL e nt c,g,undef],defers:=[]}
theorem Dw{a:Int}{nm:By}{ix v N el:Tr}(hv:oP v)(Z:fw v)(ht:IQ N)(S:Nat->Prop)(w:jW)(P b o:Nat)(vi vv:jO)(vt ve:jU)(h:Nj S w b o 5 a nm ix v N el vi vv vt ve):aA 137 #[ptr P,jQ (some (jB b o))] w (DU P (st 5 a nm ix v N el) w):=by
 obtain⟨qv,M⟩:=hZ Z h.v;injection M with M;subst M;obtain⟨⟨cs,h1,_,_,_,k4,k5,_⟩,_,U,⟨nt,ts,h5,h6⟩,_⟩:=h;obtain⟨pt,ct,rfl⟩:=mY h5;have C:b<w.heap.size:=(aC.1 h1).1;obtain⟨W0,D⟩:=aB (w.alloc (jC #[ptr P] 57));have x:az w W0:=by rw[D];exact ik _ _
 have g0:W0.heap[w.heap.size]?=some (jC #[ptr P] 57):=by rw[D];exact heap_alloc_last _ _
 have A1:=jI (jN g0 x);have L:Hid (∀W,az W0 W->W.cell? (jA w.heap.size)=some (ptr P)/\W.cell? (jB b (o+4))=some (ptr qv)/\W.cell? (jB b (o+5))=some (jL pt nt ct)):=λW J=>by
  have hB:=fR J (fR x h1);exact⟨jc 0 (fR J g0),eo hB k4,eo hB k5⟩
 have A3:Hid (∀W,az W0 W->aA 138 #[ptr P,ptr qv] W (QF (QE P v) W)):=λW J=>(hv S W P _ (fH J (fH x U))).mono λe w' h=>Us h;have A2:Hid (∀W,az W0 W->aA 53 #[ptr P,jL pt nt ct] W (QF (QB P N) W)):=λW J=>(ht S W P _ nt ts ((h5.kept (gc x) (by decide)).kept (gc J) (by decide)) (ey.kept (gc J) _ _ (ey.kept (gc x) _ _ h6))).mono λe w' h=>ptB h;have y:=jI (P_ P v);have A:=jI (Ur P N);have A6:=zb;clear h1 k4 k5 hv Z g0 x U ht h5 h6;go_enter Tryz.func137,Tryz.ntmps137
 go_upto_region 1 with fail
 rw[<-D];clear D
 go_cut [5,6] (λv5 v6 V=>∃B b6 t z,v5=ptr B/\v6=ptr b6/\Hid (V.heap[B]?=some (jC #[t] 245)/\V.heap[b6]?=some (jC #[z] 67)/\QE P v V t/\QB P N V z/\az W0 V))
 case first=>
  refine wp_region_held_drew (S:=λw'=>w'.cell? (jA w.heap.size)=some (ptr P)/\w'.cell? (jB b (o+4))=some (ptr qv)/\w'.cell? (jB b (o+5))=some (jL pt nt ct)) (by kernel_rfl) ?_ (λc=>?_)
  ·exact L _ (aJ _ _).drew
  refine iW 0 c ?_;simp only[Act.put,zS];refine iW 1 c ?_;simp only[Act.put,zS];refine iW 2 c ?_;simp only[Act.put,zS];refine iW 3 c ?_;simp only[Act.put,zS];refine iW 4 c ?_;simp only[Act.put,zS];refine iW 6 c ?_;simp only[Act.put,zS];refine iW 7 c ?_;simp only[Act.put,zS];refine iW 8 c ?_;simp only[Act.put,zS];refine iW 9 c ?_;simp only[Act.put,zS];refine iW 10 c ?_;simp only[Act.put,zS];refine lD (stop:=rL true true true true) (n:=2) (I:=λf a' w'=>∃l r k m t z F G,f=rL l r k m/\a'=Qa P b o qv nt ct w.heap.size pt t z F G/\wz W0 (QE P v) (QB P N) 245 67 l r k m t z F G w') rfl ?step ?stop ?cnt _ _ _ _ ⟨false,false,false,false,undef,undef,undef,undef,by kernel_rfl,rfl,?beg⟩ (by kernel_rfl) (by first|omega|decide)
  case beg=>exact⟨(aJ _ _).drew,λe=>(by cases e),λe=>(by cases e),λe=>(by cases e),λe=>(by cases e),λe=>(by cases e),λe=>(by cases e)⟩
  case cnt=>
   rintro f a' w' ⟨l,r,k,m,t,z,F,G,rfl,_,_⟩ hc
   revert hc
   cases l<;>cases r<;>cases k<;>cases m<;>first|exact λ_=>rfl|exact λh=>absurd h (by decide)
  case step=>
   rintro f a' w' ⟨l,r,k,m,t,z,F,G,rfl,rfl,g⟩ hs;refine⟨?_,λi hi=>?_⟩
   ·have o2:=g.o2;clear g
    revert hs o2
    cases l<;>cases r<;>cases k<;>cases m<;>first|exact λ_ _=>by decide+kernel|exact λh _=>absurd rfl h|exact λ_ h=>absurd (h rfl) (by decide)
   ·obtain⟨h0,o',T,-⟩:=mem_ready.1 hi;have Y:i<16:=(aC.1 T).1;clear T o';have A0:i=5\/i=11\/i=12\/i=13\/i=14\/i=15:=by
     have hd:∀j:Fin 16,(j.val=5\/j.val=11\/j.val=12\/j.val=13\/j.val=14\/j.val=15)\/(rL l r k m).getD j.val true=true:=by
      cases l<;>cases r<;>cases k<;>cases m<;>decide+kernel
     rcases hd ⟨i,Y⟩ with h|h
     ·exact h
     ·rw[h0]at h;cases h
    clear Y h0;rcases A0 with rfl|rfl|rfl|rfl|rfl|rfl
    ·refine wpOp_step (o:={dst:=some 12,op:=Op.call {callee:=Callee.value (Operand.func 138),args:=#[Operand.tmp 7,Operand.tmp 11],argTypes:=#[57,145]},type:=245,pos:= "stmt.go:68",after:=#[⟨0,.data⟩,⟨4,.data⟩],guard:=none}) rfl (fun K s=>?_)
     go_simp
     refine(A3 w' g.bel).mono ?_;rintro e w1 ⟨k1,E,rfl,H,C⟩;have d:=g.call1 y A C (u:= .func (.func k1) #[] E) H;exact s _ _ ⟨L _ d.bel,true,r,k,m,_,z,F,G,rfl,rfl,d⟩
    ·have q1:l=true:=(gf hi (o:={dst:=some 18,op:=Op.call {callee:=Callee.value (Operand.func 53),args:=#[Operand.tmp 13,Operand.tmp 17],argTypes:=#[57,84]},type:=67,pos:= "stmt.go:68",after:=#[⟨6,.data⟩,⟨10,.data⟩,⟨5,.chain⟩],guard:=none}) rfl).2 ⟨5,.chain⟩ (by simp) rfl;refine wpOp_step (o:={dst:=some 18,op:=Op.call {callee:=Callee.value (Operand.func 53),args:=#[Operand.tmp 13,Operand.tmp 17],argTypes:=#[57,84]},type:=67,pos:= "stmt.go:68",after:=#[⟨6,.data⟩,⟨10,.data⟩,⟨5,.chain⟩],guard:=none}) rfl (fun K s=>?_)
     go_simp
     refine(A2 w' g.bel).mono ?_;rintro e w1 ⟨k1,E,rfl,H,C⟩;have d:=g.call2 y A q1 C (u:= .func (.func k1) #[] E) H;exact s _ _ ⟨L _ d.bel,l,true,k,m,t,_,F,G,rfl,rfl,d⟩
    ·refine wpOp_step (o:={dst:=some 5,op:=Op.alloc 245,type:=0,pos:= "stmt.go:68",after:=#[],guard:=none}) rfl (fun K s=>?_)
     go_simp
     have d:=g.new1 y A;exact s _ _ ⟨L _ d.bel,l,r,true,m,t,z,_,G,rfl,rfl,d⟩
    ·refine wpOp_step (o:={dst:=some 6,op:=Op.alloc 67,type:=0,pos:= "stmt.go:68",after:=#[],guard:=none}) rfl (fun K s=>?_)
     go_simp
     have d:=g.new2 y A;exact s _ _ ⟨L _ d.bel,l,r,k,true,t,z,F,_,rfl,rfl,d⟩
    ·exfalso;have ra:=(gf hi (o:={dst:=none,op:=Op.store 245 (Operand.tmp 5) (Operand.tmp 12),type:=0,pos:= "stmt.go:68",after:=#[⟨12,.data⟩,⟨5,.data⟩,⟨11,.chain⟩,⟨0,.phase⟩,⟨1,.phase⟩,⟨2,.phase⟩,⟨3,.phase⟩,⟨4,.phase⟩,⟨5,.phase⟩,⟨6,.textOnly .lateStores⟩,⟨7,.textOnly .lateStores⟩,⟨8,.textOnly .lateStores⟩,⟨9,.textOnly .lateStores⟩,⟨10,.textOnly .lateStores⟩,⟨11,.textOnly .lateStoresUnsure⟩,⟨12,.phase⟩,⟨13,.phase⟩],guard:=none}) rfl).2;have q2:r=true:=ra ⟨11,.chain⟩ (by simp) rfl;have q1:=g.o2 q2;have r1:k=true:=ra ⟨12,.phase⟩ (by simp) rfl;have r2:m=true:=ra ⟨13,.phase⟩ (by simp) rfl;subst q1 q2 r1 r2;exact hs rfl
    ·have q:false=true:=(gf hi (o:={dst:=none,op:=Op.store 67 (Operand.tmp 6) (Operand.tmp 18),type:=0,pos:= "stmt.go:68",after:=#[⟨13,.data⟩,⟨11,.data⟩,⟨14,.chain⟩,⟨0,.phase⟩,⟨1,.phase⟩,⟨2,.phase⟩,⟨3,.phase⟩,⟨4,.phase⟩,⟨5,.phase⟩,⟨6,.phase⟩,⟨7,.phase⟩,⟨8,.phase⟩,⟨9,.phase⟩,⟨10,.phase⟩,⟨11,.phase⟩,⟨12,.phase⟩,⟨13,.phase⟩,⟨14,.phase⟩],guard:=none}) rfl).2 ⟨14,.chain⟩ (by simp) rfl;cases q
  case stop=>
   rintro a' w' ⟨l,r,k,m,t,z,F,G,O,rfl,g⟩;have A4:l=true/\r=true/\k=true/\m=true:=by
    simp only[rL,dY,bW,true_and,and_true]at O;exact⟨O.1.symm,O.2.1.symm,O.2.2.1.symm,O.2.2.2.symm⟩
   obtain⟨rfl,rfl,rfl,rfl⟩:=A4;obtain⟨k1,E,rfl⟩:=y.out.2 _ _ (g.e1 rfl);obtain⟨k2,A5,rfl⟩:=A.out.2 _ _ (g.e2 rfl);obtain⟨B,rfl,l5,g5⟩:=g.b1 rfl;obtain⟨b6,rfl,l6,g6⟩:=g.b2 rfl;have A7:B≠b6:=λe=>g.ne rfl rfl (by rw[e]);have z5:w'.cell? (jA B)=some .nilFunc:=jc 0 g5;have z6:w'.cell? (jA b6)=some .nilFunc:=jc 0 g6;have y5:w'.frozen? (jA B)=false:=by simp[World.frozen?,g5]
   have y6:w'.frozen? (jA b6)=false:=by simp[World.frozen?,g6]
   have HF:Hid (_∧_∧_∧_∧_):=g.stored y A (.inl rfl) (by decide);have Q:=jI g.bel;clear g O g5 g6;refine wpAnyH_ready (rs:=[14]) (by kernel_rfl) (by simp) ?_;refine AllReadyH.cons (o:={dst:=none,op:=Op.store 245 (Operand.tmp 5) (Operand.tmp 12),type:=0,pos:= "stmt.go:68",after:=#[⟨12,.data⟩,⟨5,.data⟩,⟨11,.chain⟩,⟨0,.phase⟩,⟨1,.phase⟩,⟨2,.phase⟩,⟨3,.phase⟩,⟨4,.phase⟩,⟨5,.phase⟩,⟨6,.textOnly .lateStores⟩,⟨7,.textOnly .lateStores⟩,⟨8,.textOnly .lateStores⟩,⟨9,.textOnly .lateStores⟩,⟨10,.textOnly .lateStores⟩,⟨11,.textOnly .lateStoresUnsure⟩,⟨12,.phase⟩,⟨13,.phase⟩],guard:=none}) rfl (fun K s=>?_) AllReadyH.nil
   go_simp
   refine s _ _ (L _ (Q.setCell (p:=(jA B)) l5 _)) (fun _=>?_);clear s K;refine wpAnyH_ready (rs:=[15]) (by kernel_rfl) (by simp) ?_;refine AllReadyH.cons (o:={dst:=none,op:=Op.store 67 (Operand.tmp 6) (Operand.tmp 18),type:=0,pos:= "stmt.go:68",after:=#[⟨13,.data⟩,⟨11,.data⟩,⟨14,.chain⟩,⟨0,.phase⟩,⟨1,.phase⟩,⟨2,.phase⟩,⟨3,.phase⟩,⟨4,.phase⟩,⟨5,.phase⟩,⟨6,.phase⟩,⟨7,.phase⟩,⟨8,.phase⟩,⟨9,.phase⟩,⟨10,.phase⟩,⟨11,.phase⟩,⟨12,.phase⟩,⟨13,.phase⟩,⟨14,.phase⟩],guard:=none}) rfl (fun K s=>?_) AllReadyH.nil
   go_simp
   refine s _ _ (L _ ((Q.setCell (p:=(jA B)) l5 _).setCell (p:=(jA b6)) l6 _)) (λ_=>?_);clear s K;refine wpAnyH_done (by kernel_rfl) ?_ _
   go_wp2_with fail
   go_meet
   exact⟨B,b6,_,_,rfl,rfl,HF⟩
 case rest=>
  obtain⟨B,b6,t,z,rfl,rfl,HF⟩:=hcut;go_wp2;go_ret;obtain⟨f1,f2,f3,⟨k,p1,g1,t1,e1,f5,f6,f7,f8⟩,f9⟩:=HF.out
  obtain⟨i1,i2⟩:=A1.out;refine⟨_,_,rfl,?_,i2.trans (f9.mono i2.size)⟩;rw[kL];exact⟨_,[],rfl,by rw[kL],.inr (.inr (.inl ⟨rfl,B,b6,w.heap.size,t,z,k,p1,g1,t1,rfl,f1,f2,fR f9 i1,f3.2,e1,f5,f6,f7,f8⟩))⟩
theorem wo{c a b d:Int}{nm f:By}{g v h el i j k el':Tr}(e:st c a nm g v h el=st b d f i j k el'):c=b/\a=d/\nm=f/\g=i/\v=j/\h=k/\el=el':=by
 simpa[st] using e
theorem Hi{P:Nat}{x:Tr}{w W:jW}{e:Ending}{w':jW}(a:az w W)(h:DU P x W e w'):(∃k b,e=jR (.func (.func k) #[] b))/\DU P x w e w':=by
 obtain⟨k,b,c,h1,h2⟩:=h;exact⟨⟨k,b,c⟩,k,b,c,h1,a.trans (h2.mono a.size)⟩
theorem PH{a:Int}{nm:By}{d v f el:Tr}(g:oP d)(i:fw d)(j:oP v)(l:fw v):QG (st 3 a nm d v f el):=by
 rintro c m n p q r s e S w P b o t u x y h;obtain⟨rfl,rfl,rfl,rfl,rfl,rfl,rfl⟩:=wo e;have z:Hid (∀W,az w W->aA 135 #[ptr P,jQ (some (jB b o))] W λe w'=>(∃k A,e=jR (.func (.func k) #[] A))/\DU P (st 3 a nm d v f el) w e w'):=λW B=>(Hu g i j l S W P b o t u x y (h.below B)).mono λe w' h=>Hi B h;obtain⟨cs,h1,h2,-⟩:=h.cells;have C:=eo h1 h2;have D:b<w.heap.size:=(aC.1 h1).1;generalize DU P (st 3 a nm d v f el) w=G at z⊢;clear h h1 h2 e;go_enter Tryz.func86,Tryz.ntmps86
 go_wp2_with(go_at_call 135;fail)
 refine(z _ (lU _ _ _)).mono ?_;rintro e w1 ⟨⟨E,F,rfl⟩,H⟩;have I:=jI H;clear H;go_wp2;exact I
theorem Sd{a:Int}{nm:By}{d v f el:Tr}(g:oP v)(i:fw v)(j:IQ f)(l:IQ el):QG (st 4 a nm d v f el):=by
 rintro c m n p q r s e S w P b o t u x y h;obtain⟨rfl,rfl,rfl,rfl,rfl,rfl,rfl⟩:=wo e;have z:Hid (∀W,az w W->aA 136 #[ptr P,jQ (some (jB b o))] W λe w'=>(∃k A,e=jR (.func (.func k) #[] A))/\DU P (st 4 a nm d v f el) w e w'):=λW B=>(xD g i j l S W P b o t u x y (h.below B)).mono λe w' h=>Hi B h;obtain⟨cs,h1,h2,-⟩:=h.cells;have C:=eo h1 h2;have D:b<w.heap.size:=(aC.1 h1).1;generalize DU P (st 4 a nm d v f el) w=G at z⊢;clear h h1 h2 e;go_enter Tryz.func86,Tryz.ntmps86
 go_wp2_with(go_at_call 136;fail)
 refine(z _ (lU _ _ _)).mono ?_;rintro e w1 ⟨⟨E,F,rfl⟩,H⟩;have I:=jI H;clear H;go_wp2;exact I
theorem Hj{a:Int}{nm:By}{d v f el:Tr}(g:oP v)(i:fw v)(j:IQ f):QG (st 5 a nm d v f el):=by
 rintro c l m n p q r e S w P b o s t u x h;obtain⟨rfl,rfl,rfl,rfl,rfl,rfl,rfl⟩:=wo e;have y:Hid (∀W,az w W->aA 137 #[ptr P,jQ (some (jB b o))] W λe w'=>(∃k z,e=jR (.func (.func k) #[] z))/\DU P (st 5 a nm d v f el) w e w'):=λW A=>(Dw g i j S W P b o s t u x (h.below A)).mono λe w' h=>Hi A h;obtain⟨cs,h1,h2,-⟩:=h.cells;have B:=eo h1 h2;have C:b<w.heap.size:=(aC.1 h1).1;generalize DU P (st 5 a nm d v f el) w=G at y⊢;clear h h1 h2 e;go_enter Tryz.func86,Tryz.ntmps86
 go_wp2_with(go_at_call 137;fail)
 refine(y _ (lU _ _ _)).mono ?_;rintro e w1 ⟨⟨D,E,rfl⟩,F⟩;have H:=jI F;clear F;go_wp2;exact H
theorem uV{a w1:jW}{b:Nat}{o:Obj}(c:Below (a.alloc (jC #[.nilFunc] 245)).heap.size (a.alloc (jC #[.nilFunc] 245)) w1)(h:a.heap[b]?=some o)(u:jU):(w1.setCell (jA a.heap.size) u).heap[b]?=some o:=by
 have d:=(aC.1 h).1;rw[aG _ _ _ _ (by show b≠a.heap.size;omega)];exact fR c (ez h _)
theorem tX{k a:Int}{nm:By}{ix v th el:Tr}(hk:k=6\/k=7\/k=8\/k=1\/k=2)(T:oP v)(A:fw v):QG (st k a nm ix v th el):=by
 rintro c a' A5 A4 v' A0 A6 e S w P b o vi vv vt ve h;obtain⟨rfl,rfl,rfl,rfl,rfl,rfl,rfl⟩:=wo e;obtain⟨J,s⟩:=hZ A h.v;injection s with s;subst s;rcases hk with rfl|rfl|rfl|rfl|rfl
 all_goals
  have HC:Hid (∀W,az w W->aA 138 #[ptr P,ptr J] W (xK P v W)):=λW hb=>T S W P _ (fH hb h.v);obtain⟨cs,h1,h2,U,-,Z,-⟩:=h.cells;have c0:=eo h1 h2;have V:=eo h1 Z;have z:b<w.heap.size:=(aC.1 h1).1;have A1:=zb;have t:Hid (w.heap[b]?=some (.cells cs 147)/\cs[o+2]?=some (str nm)):=⟨h1,U⟩;clear h h1 h2 U Z T A e;go_enter Tryz.func86,Tryz.ntmps86
  go_upto_region 8 with fail
  obtain⟨W0,j⟩:=aB ((w.alloc (.cells #[ptr P] 57)).alloc (.cells #[.pointer (some ⟨b,o,none⟩)] 186));have r:az w W0:=by rw[j];exact lU _ _ _
  have f:=jI r;have x:W0.heap.size=w.heap.size+2:=by rw[j];simp
  have y:=jI x;have u:Hid (W0.heap[w.heap.size]?=some (.cells #[ptr P] 57)/\W0.heap[w.heap.size+1]?=some (.cells #[.pointer (some ⟨b,o,none⟩)] 186)/\W0.heap[b]?=some (.cells cs 147)):=by
   show _/\_/\_;rw[j];exact⟨IC _ _ _,zE _ _ _,ez (ez t.out.1 _) _⟩
  have p1:W0.cell? ⟨w.heap.size,0,none⟩=some (ptr P):=jc 0 u.out.1;have p2:W0.cell? ⟨w.heap.size+1,0,none⟩=some (.pointer (some ⟨b,o,none⟩)):=jc 0 u.out.2.1;have p3:W0.cell? ⟨b,o+4,none⟩=some (ptr J):=by rw[r.cell (p:=⟨b,o+4,none⟩) z];exact V
  have O:=jI c0;have hz:w.heap.size+1<W0.heap.size:=by omega
  have A2:w.heap.size<W0.heap.size:=by omega
  have A3:b<W0.heap.size:=by omega
  have m1:w.heap.size≠W0.heap.size:=by omega
  have m2:w.heap.size+1≠W0.heap.size:=by omega
  have m3:b≠W0.heap.size:=by omega
  rw[<-j];clear j c0 V r x
  go_cut [5] (λv5 H=>∃q n,v5=ptr q/\Hid (H.heap[q]?=some (.cells #[n] 245)/\gz H P v n/\az w H/\H.heap[w.heap.size]?=some (.cells #[ptr P] 57)/\H.heap[w.heap.size+1]?=some (.cells #[.pointer (some ⟨b,o,none⟩)] 186)))
  case first=>
   go_region_held3(λw'=>w'.cell? ⟨w.heap.size,0,none⟩=some (ptr P)/\w'.cell? ⟨w.heap.size+1,0,none⟩=some (.pointer (some ⟨b,o,none⟩))/\w'.cell? ⟨b,o+4,none⟩=some (ptr J))
   (first|(go_keep;done)|((try dsimp only);refine⟨?_,?_,?_⟩<;>first|(go_keep;done)|(go_simp;done)|(simp[*];done)|(rw[bq (by intro e;injection e;omega)];assumption)))
   (first|(go_at_call 138;refine(HC _ (by first|exact f.drew|exact(f.alloc (by have:=y.out;omega) _).drew|exact(f.drew.alloc (by have:=y.out;simp;omega) _))).mono ?_;rintro e w1 ⟨M,l,rfl,C,d⟩;have g:=λb o h=>d.cell (p:=⟨b,o,none⟩) h;have D:=λb o h=>d.frozen (p:=⟨b,o,none⟩) h;have t1:w1.cell? ⟨w.heap.size,0,none⟩=some (ptr P):=(g _ _ (by first|(simp;done)|(simp;omega))).trans (by go_simp);have t2:w1.cell? ⟨w.heap.size+1,0,none⟩=some (.pointer (some ⟨b,o,none⟩)):=(g _ _ (by first|(simp;done)|(simp;omega))).trans (by go_simp);have t3:w1.cell? ⟨b,o+4,none⟩=some (ptr J):=(g _ _ (by first|(simp;done)|(simp;omega))).trans (by go_simp);have t4:=d.size;simp at t4;have u1:w.heap.size<w1.heap.size:=(by omega);have u2:w.heap.size+1<w1.heap.size:=(by omega);have u3:b<w1.heap.size:=(by omega)))
   all_goals first
   |(obtain⟨G,B,I⟩:=late (f.trans ((ke d).mono f.size)) C;have E:Hid (_/\_):=⟨ez (fR (ke d) u.out.1) (.cells #[.func (.func M) #[] l] 245),ez (fR (ke d) u.out.2.1) (.cells #[.func (.func M) #[] l] 245)⟩;clear g D;have m:Hid (_/\_/\_):=⟨G,B,I⟩;clear G B I;go_wp2_with fail;go_meet;exact⟨_,_,rfl,m.out.1,m.out.2.1,m.out.2.2,E.out.1,E.out.2⟩)
   |(obtain⟨G,B,I⟩:=early f (ke d) C;have E:Hid (_/\_):=⟨uV (ke d) u.out.1 (.func (.func M) #[] l),uV (ke d) u.out.2.1 (.func (.func M) #[] l)⟩;clear g D;have m:Hid (_/\_/\_):=⟨G,B,I⟩;clear G B I;go_wp2_with fail;go_meet;exact⟨_,_,rfl,m.out.1,m.out.2.1,m.out.2.2,E.out.1,E.out.2⟩)
  case rest=>
   obtain⟨q,n,rfl,K⟩:=hcut;obtain⟨Q,F⟩:=aB wc;rw[<-F]at K⊢;clear F;have d1:Q.cell? ⟨w.heap.size+1,0,none⟩=some (.pointer (some ⟨b,o,none⟩)):=jc 0 K.out.2.2.2.2;have d2:=(K.out.2.2.1.cell (p:=⟨b,o,none⟩) z).trans O;clear p1 p2 p3;go_wp2;go_ret;obtain⟨N,L,Y,f4,f5⟩:=K.out
   refine⟨_,_,rfl,?_,Y⟩;rw[kL];refine⟨_,[],rfl,by rw[kL],?_⟩
   first
   |exact .inr (.inr (.inr (.inl ⟨rfl,q,n,rfl,N,L⟩)))
   |exact .inr (.inr (.inr (.inr (.inl ⟨rfl,w.heap.size,q,n,rfl,f4,N,L⟩))))
   |exact .inr (.inr (.inr (.inr (.inr (.inl ⟨rfl,q,n,rfl,N,L⟩)))))
   |exact .inr (.inr (.inr (.inr (.inr (.inr ⟨by first|exact .inl rfl|exact .inr rfl,q,w.heap.size+1,n,rfl,N,⟨b,o,f5,cs,fR Y t.out.1,t.out.2⟩,L⟩)))))
abbrev S4(x:Tr):Prop:=∃c a nm b v d el,x=st c a nm b v d el
theorem uN{S:Nat->Prop}{w:jW}:∀(xs:List Tr)(cs:jE),(∀x∈xs,S4 x)->ey S w (chain xs) cs->cs.length=xs.length*7/\∀(i:Nat)(x:Tr),xs[i]?=some x->
  ∃c a nm b v d el f g l m,x=st c a nm b v d el/\cs[i*7]?=some (jV c)/\cs[i*7+2]?=some (str nm)/\cs[i*7+3]?=some (jQ f)/\cs[i*7+4]?=some (jQ g)/\cs[i*7+5]?=some l/\cs[i*7+6]?=some m/\ej S w b (jQ f)/\ej S w v (jQ g)/\(∃nt ts,fy S w 147 7 l nt ts/\ey S w d ts)/\(∃n o,fy S w 147 7 m n o/\ey S w el o)
 |[],cs,_,h=>by
  unfold chain at h;rw[ey]at h;subst h;exact⟨rfl,λi x p=>by simp at p⟩
 |x::xs,cs,p,h=>by
  obtain⟨c,a,nm,b,v,d,el,rfl⟩:=p x (by simp);unfold chain at h;rw[ey]at h;obtain⟨f,g,l,m,nt,n,ts,o,r,rfl,s,t,u,z,A,B,C⟩:=h;obtain⟨D,E⟩:=uN xs r (λy F=>p y (by simp[F])) C;refine⟨by simp[D];omega,λi y F=>?_⟩;cases i with
  |zero=>
   simp only[bD,bm]at F;subst F;exact⟨c,a,nm,b,v,d,el,f,g,l,m,rfl,rfl,rfl,rfl,rfl,rfl,rfl,s,t,⟨nt,ts,u,z⟩,⟨n,o,A,B⟩⟩
  |succ i=>
   simp only[bL]at F;obtain⟨G,H,I,J,K,L,M,N,O,P,Q,e,T,U,V,W,Y,Z,q⟩:=E i y F;have k:∀j,([jV c,jV a,str nm,jQ f,jQ g,l,m]++r)[(i+1)*7+j]?=r[i*7+j]?:=λj=>by
    rw[aX (by simp;omega)];congr 1;simp;omega
   exact⟨G,H,I,J,K,L,M,N,O,P,Q,e,(k 0).trans T,(k 2).trans U,(k 3).trans V,(k 4).trans W,(k 5).trans Y,(k 6).trans Z,q⟩
theorem Gv{w:jW}{P:Nat}:∀(xs:List Tr)(zs:jE),(∀x∈xs,S4 x)->zs.length=xs.length->(∀(i:Nat)(x:Tr)(u:jU),xs[i]?=some x->zs[i]?=some u->kL w P (cc x ce) [u])->kL w P (chain xs) zs
 |[],zs,_,b,_=>by
  have:zs=[]:=by simpa using b
  subst this;unfold chain;rw[kL]
 |x::xs,zs,d,b,h=>by
  cases zs with
  |nil=>simp at b
  |cons z zs=>
   obtain⟨c,a,nm,f,v,g,el,rfl⟩:=d x (by simp);have j:=h 0 _ z rfl rfl;have h1:=Gv xs zs (λy k=>d y (by simp[k])) (by simpa using b) λi l u d m=>h (i+1) l u (by simpa using d) (by simpa using m);unfold chain;rw[kL]at j⊢;obtain⟨u,n,e,_,j⟩:=j;injection e with e1 e2;subst e1;exact⟨z,zs,rfl,h1,j⟩
theorem O_:(Tryz.prog.info? 67).map (λi=>(i.zero,i.size,i.bytes))=some (some .nilFunc,1,8):=by kernel_rfl
theorem Kz(n:Nat)(a:n<=1000000)(w:jW):(Instr.makeSlice 184 (jV (n:Int)) (jV (n:Int))).run Tryz.prog w= .ok (jL (some (jA w.heap.size)) n n) (w.alloc (jC (List.replicate n Value.nilFunc).toArray 67)):=by
 obtain⟨i,b,c,d,e⟩:=info_parts O_;have:=cQ w 184 67 i _ Tryz.underlying184 b c .i64 .i64 (n:Int) (n:Int) (by omega) (by omega) (by rw[d];simp;omega) (by rw[e];omega) (by omega);rw[d]at this;simp only[aR,xz]at this;exact this
structure QA (w:jW) (P:Nat) (xs:List Tr) (n:Nat) (wr:jW) (i:Nat):Prop where
 at':∃zs:jE,zs.length=i/\az w wr/\w.heap.size+1+1<wr.heap.size/\wr.heap[w.heap.size]?=some (jC #[ptr P] 57)/\
  wr.heap[w.heap.size+1]?=some (jC (zs++List.replicate (n-i) Value.nilFunc).toArray 67)/\wr.heap[w.heap.size+1+1]?=some (jC #[jL (some ⟨w.heap.size+1,0,none⟩) n n] 184)/\
  ∀(j:Nat)(x:Tr)(u:jU),xs[j]?=some x->zs[j]?=some u->kL wr P (cc x ce) [u]
theorem Gw(w:jW)(P:Nat)(xs:List Tr)(n:Nat):QA w P xs n (((w.alloc (jC #[ptr P] 57)).alloc (jC (Array.replicate n Value.nilFunc) 67)).alloc (jC #[jL (some ⟨w.heap.size+1,0,none⟩) n n] 184)) 0:=by
 have a:Array.replicate n Value.nilFunc=(List.replicate n Value.nilFunc).toArray:=by simp
 rw[a];refine⟨⟨[],rfl,(lU _ _ _).alloc (by simp;omega) _,by simp,ez (IC _ _ _) _,ez (zE _ _ _) _,?_,λj x u _ b=>by simp at b⟩⟩;have:=heap_alloc_last ((w.alloc (jC #[ptr P] 57)).alloc (jC (List.replicate n Value.nilFunc).toArray 67)) (jC #[jL (some ⟨w.heap.size+1,0,none⟩) n n] 184);simpa using this
theorem KA{w:jW}{P:Nat}{xs:List Tr}{n:Nat}{wr w1:jW}{i:Nat}{x:Tr}{u:jU}(h:QA w P xs n wr i)(a:i<n)(c:xs[i]?=some x)(d:az wr w1)(hc:kL w1 P (cc x ce) [u]):QA w P xs n (w1.setCell ⟨w.heap.size+1,i,none⟩ u) (i+1):=by
 obtain⟨zs,f,h1,g,h2,k,l,m⟩:=h.at';have o:w1.heap[w.heap.size+1]?=some (jC (zs++List.replicate (n-i) Value.nilFunc).toArray 67):=by rw[d.block _ (by omega)];exact k
 have q:Ks w1 (w1.setCell ⟨w.heap.size+1,i,none⟩ u):=Ks.set' (.inr rfl) o (by simp;right;omega);have r:∀b,b<wr.heap.size->b≠w.heap.size+1->(w1.setCell ⟨w.heap.size+1,i,none⟩ u).heap[b]?=wr.heap[b]?:=λb s t=>by rw[aG _ _ _ _ t,d.block b s]
 refine⟨⟨zs++[u],by simp[f],(h1.trans (d.mono (by omega))).setCell (p:=⟨w.heap.size+1,i,none⟩) (by show w.heap.size<=w.heap.size+1;omega) _,?_,by rw[r _ (by omega) (by omega)];exact h2,?_,by rw[r _ (by omega) (by omega)];exact l,λj v y z A=>?_⟩⟩
 ·have:=d.size;have e:(w1.setCell ⟨w.heap.size+1,i,none⟩ u).heap.size=w1.heap.size:=by simp[World.setCell]
  omega
 ·rw[<-xB zs n i u f a];exact aH _ _ _ _ _ _ o
 ·refine kL.kept q _ _ ?_;by_cases B:j<i
  ·rw[aW (by omega)]at A;exact(m j v y z A).below d
  ·rw[aX (by omega)]at A;obtain rfl:j=i:=by
    have:=(aK.1 A).1;simp at this;omega
   rw[f,cD]at A;simp only[bD,bm]at A;subst A;rw[c]at z;injection z with z;subst z;exact hc
theorem Pa{w:jW}{P:Nat}{xs:List Tr}{n:Nat}{wr:jW}(h:QA w P xs n wr n)(a:n=xs.length)(b:∀x∈xs,S4 x):S6 P (chain xs) w (jR (.func (.func 87) #[] #[ptr (w.heap.size+1+1),ptr w.heap.size])) wr:=by
 obtain⟨zs,c,h1,d,h2,e,f,g⟩:=h.at';rw[cD,List.replicate_zero,bT]at e;exact⟨_,rfl,⟨w.heap.size+1+1,w.heap.size,w.heap.size+1,zs,rfl,by rw[c];exact f,e,h2,Gv xs zs b (by omega) g⟩,h1⟩
theorem rC{xs:List Tr}(d:∀x∈xs,QG x/\S4 x)(f:xs.length<=1000000):IQ (chain xs):=by
 intro S w P v k cs l m;obtain⟨q,r⟩:=uN xs cs (λx s=>(d x s).2) m;obtain⟨t,cv,u,y⟩:∃t cv,v=jL t xs.length cv/\∀i,i<xs.length->∃g z,t=some (jA g)/\w.heap[g]?=some (.cells z 147)/\xs.length<=cv/\∀j,j<7->z[i*7+j]?=cs[i*7+j]?:=by
  obtain⟨⟨A,B⟩,-⟩:=l;have C:k=xs.length:=by omega
  subst C;rcases B with⟨rfl,D⟩|⟨g,E,z,rfl,_,F,hc,_,_,H⟩
  ·rw[D];exact⟨none,0,rfl,λi I=>by omega⟩
  ·refine⟨_,E,rfl,λi I=>⟨g,z,rfl,F,hc,λj J=>?_⟩⟩;rw[<-H,bZ,if_pos (by omega)];simp
 subst u;obtain⟨n,K⟩:=aB xs.length;have L:=jI K;have M:n<=1000000:=by rw[K];exact f
 rw[<-K]at y⊢;have N:=zb;have O:=Kz n M;obtain⟨Q,T,U⟩:=j3 y r d;clear l m q r y K f d;generalize V:S6 P (chain xs) w=G;have Y:=jI V;clear V;go_enter Tryz.func53,Tryz.ntmps53
 go_upto_region 2 with fail
 have Z:=Gw w P xs n;obtain⟨t,k⟩:=aB (((w.alloc (jC #[ptr P] 57)).alloc (jC (Array.replicate n Value.nilFunc) 67)).alloc (jC #[jL (some ⟨w.heap.size+1,0,none⟩) n n] 184));rw[<-k]at Z⊢;have B:=jI Z;clear k Z
 go_wp2_with fail
 go_loopw [12] (λv wr=>∃i:Nat,i<=n/\v=jV i/\Hid (QA w P xs n wr i)) (λv _=>n-(intOf v).toNat)
 case atStart=>exact⟨0,aQ _,rfl,B⟩
 case round=>
  obtain⟨i,C,rfl,E⟩:=hrel;by_cases I:i<n
  ·obtain⟨x,s⟩:∃x,xs[i]?=some x:=⟨xs[i]'(by rw[<-L.out];exact I),aI _⟩;obtain⟨g,z,rfl,F,u,H⟩:=Q i I;obtain⟨c,a,nm,J,v,N,el,M,O,d,ve,l,m,r,y,K,V,t,Z,k,q9,B⟩:=T i x s;have C:=(U x (aM s)).1;have u:Nj S w g (i*7) c a nm J v N el M O d ve:=⟨⟨z,F,(H 0 (by omega)).trans m,(H 2 (by omega)).trans r,(H 3 (by omega)).trans y,(H 4 (by omega)).trans K,(H 5 (by omega)).trans V,(H 6 (by omega)).trans t⟩,Z,k,q9,B⟩;obtain⟨zs,Q,h1,T,h2,z,T,f⟩:=E.at';have A:wr.cell? (jA w.heap.size)=some (ptr P):=jc 0 h2;have D:wr.cell? ⟨w.heap.size+1+1,0,none⟩=some (jL (some ⟨w.heap.size+1,0,none⟩) n n):=jc 0 T;have A:=eo z (AZ zs n i Q I);have D:wr.frozen? ⟨w.heap.size+1,i,none⟩=false:=by simp[World.frozen?,z]
   have A:w.heap.size<wr.heap.size:=by omega
   obtain⟨D,A,A0⟩:=j3 h1 s (λW (A1:az w W)=>C c a nm J v N el l S W P g (i*7) M O d ve (u.below A1));have J:(i:Int)<(n:Int):=by omega
   clear s F H C h1 h2 z T f Q m r y K V t Z k q9 B u l
   go_wp2_with fail
   go_region_held3(λw'=>w'.cell? (jA w.heap.size)=some (ptr P)/\w'.cell? ⟨w.heap.size+1+1,0,none⟩=some (jL (some ⟨w.heap.size+1,0,none⟩) n n))
    (first|(go_keep;done)|((try dsimp only);refine⟨?_,?_⟩<;>first|(go_keep;done)|(go_simp;done)|(simp[*];done)|(rw[bq (by intro e;injection e;omega)];assumption)))
    (first|(go_at_call 86;refine(A0 _ (D.drew)).mono ?_;rintro e w1 ⟨N,M,rfl,q,O⟩;have d:=λb o h=>O.cell (p:=(jB b o)) h;have f:=λb o h=>O.frozen (p:=(jB b o)) h;have F:w1.cell? (jA w.heap.size)=some (ptr P):=(d _ _ (by simp;omega)).trans (by go_simp);have H:w1.cell? ⟨w.heap.size+1+1,0,none⟩=some (jL (some ⟨w.heap.size+1,0,none⟩) n n):=(d _ _ (by simp;omega)).trans (by go_simp);have l:w1.cell? ⟨w.heap.size+1,i,none⟩=some Value.nilFunc:=(d _ _ (by simp;omega)).trans (by go_simp);have m:w1.frozen? ⟨w.heap.size+1,i,none⟩=false:=(f _ _ (by simp;omega)).trans (by go_simp);have r:Hid (QA w P xs n (w1.setCell ⟨w.heap.size+1,i,none⟩ (.func (.func N) #[] M)) (i+1)):=KA E I A (ke O) q;clear d f q O))
   go_wp2;exact⟨⟨i+1,by omega,by go_num,r⟩,by simp[intOf];omega⟩
  ·have y:i=n:=by omega
   subst y;have K:Hid (G (jR (.func (.func 87) #[] #[ptr (w.heap.size+1+1),ptr w.heap.size])) wr):=by
    show G _ _;rw[<-Y.out];exact Pa E L (λx s=>(U x s).2)
   go_wp2;exact K
theorem mP:∀(f d:Nat)(t:Tr),RE f d t->fD t->oP t/\fw t
 |0,_,_,h,_=>by rw[RE]at h;exact h.elim
 |f+1,d,t,h,b=>by
  have c:=MD h;refine⟨?_,c⟩;rw[RE]at h;obtain⟨_,h⟩:=h;rcases h with⟨a,n,_,_,rfl⟩|⟨a,nm,_,rfl⟩|⟨a,g,l,r,_,i,j,rfl⟩|⟨a,g,l,_,i,rfl⟩|⟨a,nm,xs,_,k,rfl⟩|⟨a,l,i,rfl⟩|⟨a,l,i,rfl⟩|⟨a,l,r,i,j,rfl⟩|⟨a,rfl⟩
  all_goals rw[fD]at b
  ·exact Ox
  ·exact Kd
  ·obtain⟨_,_,_,_,_,_,gl,m,_⟩:=b;have o:=mP f _ l i gl;have p:=mP f _ r j m;exact OJ o.1 o.2 p.1 p.2
  ·obtain⟨_,_,_,_,_,_,gl,m,_⟩:=b;have o:=mP f _ l i gl;exact Re o.1 o.2
  ·obtain⟨_,_,_,_,_,_,_,_,q,s,e,u⟩:=b;have v:xs.length<=1000000:=by
    have:=congrArg qw e;rw[ig,ig]at this;omega
   have w:∀(xs:List Tr),fD (chain xs)->∀x∈xs,fD x:=λxs=>by
    induction xs with
    |nil=>intro _ x k;simp at k
    |cons y s z=>
     intro h x k;unfold chain at h;rw[fD]at h;rcases aY.1 k with rfl|k
     ·exact h.2.1
     ·exact z h.2.2 x k
   exact JQ (λx A=>mP f _ x (k x A) (w xs q x A)) v
  ·obtain⟨_,_,_,_,_,_,gl,m,_⟩:=b;have o:=mP f _ l i gl;exact Oy o.1 o.2
  ·obtain⟨_,_,_,_,_,_,gl,m,_⟩:=b;have o:=mP f _ l i gl;exact Oi o.1 o.2
  ·obtain⟨_,_,_,_,_,_,gl,m,_⟩:=b;have o:=mP f _ l i gl;have p:=mP f _ r j m;exact Kr o.1 o.2 p.1 p.2
  ·exact Ff
theorem iF{d:Nat}{t:Tr}(h:yw d t)(g:fD t):oP t/\fw t:=by
 obtain⟨e,h⟩:=h;exact mP e d t h g
theorem tE:∀(xs:List Tr),fV (chain xs)->∀x∈xs,fV (cc x ce)
 |[],_,x,b=>by simp at b
 |y::xs,h,x,b=>by
  have d:=h;obtain⟨c,a,nm,e,v,f,el,rfl,h1,h2,g,i,j,k,l,m,n,o,p⟩:=km d;rcases aY.1 b with rfl|b
  ·exact tM h1 h2 g i j k l m n o qh
  ·exact tE xs p x b
theorem BJ:∀(f d:Nat)(t:Tr),RS f d t->fV (cc t ce)->QG t
 |0,_,_,h,_=>h.elim
 |f+1,d,t,h,j=>by
  have k:∀(d:Nat)(xs:List Tr),(∀x∈xs,RS f d x)->fV (chain xs)->qw (chain xs)<=1000000->IQ (chain xs):=λd xs l g hc=>rC (λx m=>⟨BJ f d x (l x m) (tE xs g x m),Bj (l x m)⟩) (by rw[ig]at hc;exact hc);obtain⟨c,a,nm,n,v,o,el,rfl,h1,h2,p,q,r,s,u,w,y,z,A⟩:=km j;rw[RS]at h;rcases h with⟨B,C,D,E,F,e⟩|⟨B,C,D,E,F,e⟩|⟨B,C,i,D,E,G,F,e⟩|⟨B,D,xs,H,hd,F,l,I,e⟩|⟨B,D,xs,hd,F,l,e⟩|⟨B,D,F,e⟩|⟨B,D,F,e⟩|⟨B,b,C,xs,E,⟨J,l⟩,e⟩
  all_goals
   simp only[st,dD,bW,bV,cR,cK,true_and,and_true]at e;obtain⟨rfl,rfl,rfl,rfl,rfl,rfl,rfl⟩:=e
  ·exact tX (.inr (.inr (.inr (.inl rfl)))) (iF F s).1 (iF F s).2
  ·exact tX (.inr (.inr (.inr (.inr rfl)))) (iF F s).1 (iF F s).2
  ·exact PH (iF G q).1 (iF G q).2 (iF F s).1 (iF F s).2
  ·exact Sd (iF F s).1 (iF F s).2 (k _ xs l u w) (k _ H I y z)
  ·exact Hj (iF F s).1 (iF F s).2 (k _ xs l u w)
  ·exact tX (.inl rfl) (iF F s).1 (iF F s).2
  ·exact tX (.inr (.inl rfl)) (iF F s).1 (iF F s).2
  ·have F:yw 0 (nd 5 b 0 C [] .nil .nil (chain xs)):=⟨J+1,by
    rw[RE];exact⟨by omega,.inr (.inr (.inr (.inr (.inl ⟨_,_,_,E,l,rfl⟩))))⟩⟩
   exact tX (.inr (.inr (.inl rfl))) (iF F s).1 (iF F s).2
theorem KB{xs:List Tr}{e:Nat}(h:∀x∈xs,RS e 1 x)(g:fV (chain xs))(hc:qw (chain xs)<=1000000):IQ (chain xs):=rC (λx a=>⟨BJ e 1 x (h x a) (tE xs g x a),Bj (h x a)⟩) (by rw[ig]at hc;exact hc)
end Go.Proofs.YtnfhpdbbfejioaaGreatDoor
