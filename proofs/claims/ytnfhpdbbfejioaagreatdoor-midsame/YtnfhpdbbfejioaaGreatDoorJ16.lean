/- NK -/
import Derived.Test.YtnfhpdbbfejioaaGreatDoorJ12
set_option linter.unusedVariables false
set_option linter.unusedSimpArgs false
set_option maxRecDepth 100000
set_option maxHeartbeats 16000000
namespace Go.Proofs.YtnfhpdbbfejioaaGreatDoor.Mid
open Go Go.RowKit
theorem Fz.setE{P a:Nat}{w w1:jW}{r r1:Rs}(h:Fz P (λb=>b=a) w r w1 r1){i:Nat}{v:jU}:Fz P (λb=>b=a) w r (w1.setCell (jB a i) v) r1:=
 ⟨h.os,h.tape,h.output,by simp;exact h.size,λb c d e=>by rw[aG _ _ _ _ e];exact h.blk b c d e,h.pre,h.new⟩
theorem Dv{X:Mx}(f:oU X)(l:ux X){g:Nat}(m:∀g',g'<g->uy X g'):uy X g:=by
 intro F fb q u y w r d ob o z A B C D;have E:(w.alloc (jC #[jQ (some (jB fb q)),.map (some u)] 120)).cell? (jB X.P 4)=some (jV (d:Int)):=eF (jc 4 z.pb);have H:=ea (by rw[ed z.ltP];exact z.pb:(w.alloc (jC #[jQ (some (jB fb q)),.map (some u)] 120)).heap[X.P]?=_) 4;have hd:=z.deep;obtain⟨I,J,K,L,M,N⟩:=j6 z f l m y (jN A (jN B C));obtain⟨kl,O⟩:∃kl,o.length=kl:=⟨_,rfl⟩;have Q:Hid (o.length=kl/\F.types.length=kl/\kl<=1000000):=⟨O,by omega,by have:=y.fn.i2.2.1;omega⟩;generalize T:SM X w r d ob (fK X.fs g d F o r.s)=G;have U:=jI T;rw[O];have V:=Q.out.2.2;by_cases Y:40<=d
 ·have Z:Hid (fK X.fs g d F o r.s= .error (5,r.s.out)):=by unfold fK;rw[if_pos Y];rfl
  have I:Hid (Sm X.w0 X.P X.fv (w.alloc (jC #[jQ (some (jB fb q)),.map (some u)] 120)) r d/\Fz X.P (λb=>b=ob) w r (w.alloc (jC #[jQ (some (jB fb q)),.map (some u)] 120)) r):=⟨z.below (eL _ _),Fz.below (eL _ _)⟩;clear z f l m y A B C D O T;go_enter Tryz.func50,Tryz.ntmps50
  go_wp2_with(go_at_call 78;refine(eQ _ _).mono ?_;rintro e w' ⟨rfl,rfl⟩)
  refine⟨rfl,?_⟩;rw[<-U.out,Z.out];exact⟨r,d,I.out.1,I.out.2,.inr ⟨5,rfl,rfl⟩⟩
 ·have Z:Hid (fK X.fs g d F o r.s=iK X.fs g (d+1) F 0 o r.s):=by show(if 40<=d then gt 5 else iK X.fs g (d+1) F 0 o) r.s=_;exact dW (if_neg Y) _
  have Y:Hid (∀out,iK X.fs g (d+1) F 0 o r.s≠.error (99,out)):=λout=>by rw[<-Z.out];exact D out
  have I:=eL w (jC #[jQ (some (jB fb q)),.map (some u)] 120);obtain⟨A0,A1⟩:=(z.below I).setP (i:=4) (v:=jV ((d:Int)+1)) r (d+1) (by simp) rfl rfl rfl rfl z.inp z.few (by omega);obtain⟨A2,A3⟩:=aB ((w.alloc (jC #[jQ (some (jB fb q)),.map (some u)] 120)).setCell (jB X.P 4) (jV ((d:Int)+1)));have A4:Hid (LW X fb q u F w r d ob g o A2 0):=by
   rw[A3];have A5:=(Fz.below I).trans A1;refine⟨⟨g,r,o,A0,A5.no,?_,B,aD _,?_,rfl⟩,?_⟩
   ·refine A.mono (A5.blk ob A.lt (A.notX z) (λe=>e)) aN
   ·obtain⟨t,h1,_⟩:=y.last;have:=(aK.1 h1).1;omega
   ·rw[aG _ _ _ _ (by have:=z.ltP;show w.heap.size≠X.P;omega)];exact heap_alloc_last _ _
  have A6:Hid (w.heap.size≠ob):=by have:=A.lt;show _≠_;omega
  clear z f l m y A B C D O T A0 A1 I;go_enter Tryz.func50,Tryz.ntmps50
  go_wp2_with(go_at_call 78;fail)
  rw[<-A3];clear A3 E H
  go_loopw [7] (λv wr=>∃k:Nat,v=jV k/\Hid (LW X fb q u F w r d ob g o wr k)) (λ_ wr=>iX X.P wr)
  case atStart=>exact⟨0,rfl,A4⟩
  case round=>
   obtain⟨k,rfl,f⟩:=hrel;obtain⟨⟨g',l,y,z,A,B,C,D,O,T⟩,A7⟩:=f.out;obtain⟨f,rfl⟩:=IZ (X:=X) (g':=g') (λout=>by rw[<-T];exact Y out);obtain⟨s,A8⟩:∃s,F.steps[k]?=some s:=⟨F.steps[k],aI O⟩;rw[LX A8]at T;obtain⟨A9,B0,B1⟩:=j3 (jN z (jN A (jN B (jN C (jN D (jN O A7)))))) T A8;clear z A B C D O T A7 A8
   go_wp2_with(go_at_call 79;fail)
   refine(r8 X.toCx wr l (d+1) A9.out.1).mono ?_;rintro e w1 (⟨D,rfl,rfl⟩|⟨D,rfl,h1,O⟩)
   ·refine⟨rfl,?_⟩;rw[<-U.out,Z.out,B0.out,gS (tN D)];exact⟨l,d+1,A9.out.1,A9.out.2.1,.inr ⟨6,rfl,rfl⟩⟩
   have T:Hid (iK X.fs g (d+1) F 0 o r.s=stepG X.fs f (d+1) F k y s l.fuel1.s):=by rw[B0.out,ft (oC D)];rfl
   have I:=Ee A9.out.2.2.2.2.2.2 A9.out.1 A6 O.no;have B2:=A9.out.2.2.1.mono (O.blk ob A9.out.2.2.1.lt (A9.out.2.2.1.notX A9.out.1) (λe=>e)) O.pre;have B3:=jI (jN h1 (jN (A9.out.2.1.trans O.no) (jN B2 I)));obtain⟨r1,B4⟩:∃r1,l.fuel1=r1:=⟨_,rfl⟩;have B5:Hid (r1.s.fuel<l.s.fuel/\iX X.P wr=l.s.fuel.toNat/\0<l.s.fuel):=⟨by rw[<-B4];show l.s.fuel-1<l.s.fuel;omega,nN A9.out.1,by omega⟩;rw[B4]at B3 T;have l:=jc 0 I;have l:=jc 1 I;obtain⟨l,cs,B6,B7,B8⟩:=M.fn.c3;obtain⟨gs,B9,rfl,C0⟩:∃g p,l=some (jB g p)/\∀j s,F.steps[j]?=some s->g8 X.wc g (p+j*10) s:=by
    rcases B8 with h|h
    ·have:=B1.out;rw[h]at this;simp at this
    ·exact h
   have l:=jI (C0 k s B1);obtain⟨ns,C1⟩:∃ns,F.steps.length=ns:=⟨_,rfl⟩;have C2:k<ns:=by have:=A9.out.2.2.2.2.2.1;omega
   have C3:ns<=1000000:=by have:=M.fn.i2.2.2;omega
   have C4:=J.cell B3.out.1 B6;rw[C1]at C4 B7;have C5:=J.cell B3.out.1 l.c0;have C6:=jI (M.ok s (aM B1));have C7:Hid (y.length=kl):=by have:=A9.out.2.2.2.1;have:=Q.out;show _=_;omega
   clear D h1 O I B2 B4 B6 B8 C0 C1;have D:Hid (∀O C8 C9 D0 D1,Sm X.w0 X.P X.fv O C8 (d+1)->Fz X.P (λb=>b=ob) w1 r1 O C8->nO O ob C8.ab C9->C9.length=F.types.length->D0<F.steps.length->D1<=g->iK X.fs g (d+1) F 0 o r.s=iK X.fs D1 (d+1) F D0 C9 C8.s->C8.s.fuel<=r1.s.fuel->LW X fb q u F w r d ob g o O D0/\iX X.P O<iX X.P wr):=by
    intro O C8 C9 D0 D1 h1 h2 D2 D3 D4 D5 D6 D7;refine⟨⟨⟨D1,C8,C9,h1,B3.out.2.1.trans h2,D2,D3,D5,D4,D6⟩,Ee B3.out.2.2.2 B3.out.1 A6 h2⟩,?_⟩;have:=B5.out;rw[nN h1,this.2.1];omega
   have D8:Hid (f<=g/\f<g):=by have:=A9.out.2.2.2.2.1;exact⟨by omega,by omega⟩
   have D9:=C6.code;have E0:Hid (∀W,az w1 W->Sm X.w0 X.P X.fv W r1 (d+1)/\Fz X.P (λb=>b=ob) w1 r1 W r1/\nO W ob r1.ab y):=λW E1=>⟨B3.out.1.below E1,Fz.below E1,B3.out.2.2.1.mono (E1.block ob B3.out.2.2.1.lt) aN⟩;have E2:Hid (∀W D0,az w1 W->D0<F.steps.length->iK X.fs g (d+1) F 0 o r.s=iK X.fs f (d+1) F D0 y r1.s->LW X fb q u F w r d ob g o W D0/\iX X.P W<iX X.P wr):=λW D0 E1 h1 h2=>by
    obtain⟨E3,E4,E5⟩:=E0 W E1;exact D W r1 y D0 f E3 E4 E5 A9.out.2.2.2.1 h1 D8.out.1 h2 (cC _)
   by_cases D7:s.code=8
   ·have E6:Hid (iK X.fs g (d+1) F 0 o r.s= .ok ((pl y s.a).1,r1.s)):=by rw[T.out,QL D7];rfl
    obtain⟨E7,E8⟩:=C6.a (by omega);rw[D7]at C5;have E:w1.cell? (jB X.P 4)=some (jV ((d:Int)+1)):=by have:=jc 4 B3.out.1.pb;simpa using this
    have H:=ea B3.out.1.pb 4;obtain⟨E,H⟩:=B3.out.1.setP (i:=4) (v:=jV (d:Int)) r1 d (by simp) rfl rfl rfl rfl B3.out.1.inp B3.out.1.few (by omega);have E9:=jI (jN E H);have F0:=J.cell E l.c2;have F1:=B3.out.2.2.1.mono (H.blk ob B3.out.2.2.1.lt (B3.out.2.2.1.notX B3.out.1) (λe=>e)) aN;obtain⟨F2,F3,-,-⟩:=F1.get E7 (by rw[A9.out.2.2.2.1];exact E8);obtain⟨ia,F4⟩:∃ia:Nat,s.a=ia:=⟨s.a.toNat,by omega⟩;obtain⟨nv,F5⟩:∃nv,(pl y s.a).1=nv:=⟨_,rfl⟩;rw[F5]at F3 E6;rw[F4]at F0 F3;rw[aR]at F3;have F6:ia<kl:=by have:=Q.out;omega
    clear E H F1 F4 F5 E7 E8 D7 D9;go_wp2;rw[<-U.out,Z.out,E6.out]
    exact⟨r1,d,E9.out.1,B3.out.2.1.trans E9.out.2.no,.inl ⟨nv,rfl,rfl,rfl⟩⟩
   by_cases D3:s.code=4
   ·obtain⟨j,F7⟩:=C6.goes (.inl D3);have E6:Hid (iK X.fs g (d+1) F 0 o r.s=iK X.fs f (d+1) F (j+1) y r1.s):=by rw[T.out,QM D3,F7];rfl
    have F8:=jI (Ed M F7);have F9:j<1000000:=by have:=F8.out;have:=M.fn.i2.2.2;omega
    rw[D3]at C5;have G0:=J.cell B3.out.1 l.c7;have lk:=M.lab w1.drew (λb E1=>J.all B3.out.1 b E1) s.label l.i1.2.2.2.2.2.2;rw[F7]at lk;have G1:=lk;clear lk F7 D3 D7 D9
    go_wp2_with fail
    go_region;go_wp2;obtain⟨G2,G3⟩:=E2 w1.drew (j+1) (aJ _ _).drew F8 E6
    exact⟨⟨j+1,by simp,G2⟩,G3⟩
   have G4:=jI (AE M B1 D7 D3);have G5:k+1<1000000:=by have:=G4.out;have:=M.fn.i2.2.2;omega
   by_cases D5:s.code=6
   ·have E6:Hid (iK X.fs g (d+1) F 0 o r.s=iK X.fs f (d+1) F (k+1) y r1.s):=by rw[T.out,QN D5];rfl
    rw[D5]at C5;clear D7 D3 D5 D9;go_wp2;obtain⟨G2,G3⟩:=E2 w1 (k+1) (aJ _ _) G4 E6
    exact⟨⟨k+1,by simp,G2⟩,G3⟩
   by_cases D4:s.code=5
   ·obtain⟨j,F7⟩:=C6.goes (.inr D4);have F8:=jI (Ed M F7);have F9:j<1000000:=by have:=F8.out;have:=M.fn.i2.2.2;omega
    obtain⟨E7,E8⟩:=C6.a (by omega);have F0:=J.cell B3.out.1 l.c2;obtain⟨F2,F3,-,-⟩:=B3.out.2.2.1.get E7 (by rw[A9.out.2.2.2.1];exact E8);obtain⟨ia,F4⟩:∃ia:Nat,s.a=ia:=⟨s.a.toNat,by omega⟩;obtain⟨nv,F5⟩:∃nv,(pl y s.a).1=nv:=⟨_,rfl⟩;rw[F5]at F3;rw[F4]at F0 F3;rw[aR]at F3;have F6:ia<kl:=by have:=Q.out;omega
    rw[D4]at C5;have G0:=J.cell B3.out.1 l.c7;have lk:=M.lab w1.drew (λb E1=>J.all B3.out.1 b E1) s.label l.i1.2.2.2.2.2.2;rw[F7]at lk;have G1:=lk;by_cases M:nv=0
    ·have E6:Hid (iK X.fs g (d+1) F 0 o r.s=iK X.fs f (d+1) F (j+1) y r1.s):=by rw[T.out,Nv D4,F7,F5,if_pos M];rfl
     have G6:(nv==0)=true:=by simpa using M
     clear lk F7 D3 D7 D5 D4 D9 F4 F5 E7 E8 M
     go_wp2_with fail
     go_region;go_wp2;obtain⟨G2,G3⟩:=E2 w1.drew (j+1) (aJ _ _).drew F8 E6
     exact⟨⟨j+1,by simp,G2⟩,G3⟩
    ·have E6:Hid (iK X.fs g (d+1) F 0 o r.s=iK X.fs f (d+1) F (k+1) y r1.s):=by rw[T.out,Nv D4,F5,if_neg M];rfl
     have G6:(nv==0)=false:=by simpa using M
     clear lk F7 D3 D7 D5 D4 D9 F4 F5 E7 E8 M G1;go_wp2;obtain⟨G2,G3⟩:=E2 w1 (k+1) (aJ _ _) G4 E6
     exact⟨⟨k+1,by simp,G2⟩,G3⟩
   by_cases M:s.code=13
   ·obtain⟨E7,E8⟩:=C6.a (by omega);have F0:=J.cell B3.out.1 l.c2;obtain⟨F2,F3,-,-⟩:=B3.out.2.2.1.get E7 (by rw[A9.out.2.2.2.1];exact E8);obtain⟨ia,F4⟩:∃ia:Nat,s.a=ia:=⟨s.a.toNat,by omega⟩;obtain⟨nv,F5⟩:∃nv,(pl y s.a).1=nv:=⟨_,rfl⟩;rw[F5]at F3;rw[F4]at F0 F3;rw[aR]at F3;have F6:ia<kl:=by have:=Q.out;omega
    rw[M]at C5;have E6:Hid (iK X.fs g (d+1) F 0 o r.s=(gb (lO nv) λ_=>iK X.fs f (d+1) F (k+1) y) r1.s):=by rw[T.out,LY M,F5];rfl
    clear D3 D7 D5 D4 M D9 F4 F5 E7 E8
    go_wp2_with(go_at_call 80;fail)
    refine(mi X.toCx w1 r1 (d+1) nv B3.out.1).mono ?_;rintro e O (⟨G7,rfl,rfl⟩|⟨G7,rfl,G8,G9,H0⟩)
    ·refine⟨rfl,?_⟩;rw[<-U.out,Z.out,E6.out,gS (I_ G7)];exact⟨r1,d+1,B3.out.1,B3.out.2.1,.inr ⟨7,rfl,rfl⟩⟩
    ·have H2:Hid (LW X fb q u F w r d ob g o O (k+1)/\iX X.P O<iX X.P wr):=D O (r1.tell1 G8 nv) y (k+1) f G9 H0.no (B3.out.2.2.1.mono (H0.blk ob B3.out.2.2.1.lt (B3.out.2.2.1.notX B3.out.1) (λe=>e)) H0.pre) A9.out.2.2.2.1 G4 D8.out.1 (by rw[E6.out,ft (Ja G7)];rfl) (cC _);clear G7 G9 H0;go_wp2;exact⟨⟨k+1,by simp,H2.out.1⟩,H2.out.2⟩
   by_cases H3:s.code=12
   ·obtain⟨E7,E8⟩:=C6.a (by omega);obtain⟨H4,I⟩:=C6.b (by omega);obtain⟨H5,H6⟩:=C6.c H3;have F0:=J.cell B3.out.1 l.c2;have H7:=J.cell B3.out.1 l.c3;have H8:=J.cell B3.out.1 l.c4;obtain⟨H9,-,I0,I1⟩:=B3.out.2.2.1.get E7 (by rw[A9.out.2.2.2.1];exact E8);obtain⟨I2,I3,-,-⟩:=B3.out.2.2.1.get H4 (by rw[A9.out.2.2.2.1];exact I);obtain⟨I4,I5,-,-⟩:=B3.out.2.2.1.get H5 (by rw[A9.out.2.2.2.1];exact H6);obtain⟨I6,I7,I8,rfl⟩:=pJ I1;obtain⟨ia,F4⟩:∃ia:Nat,s.a=ia:=⟨s.a.toNat,by omega⟩;obtain⟨ib,I9⟩:∃ib:Nat,s.b=ib:=⟨s.b.toNat,by omega⟩;obtain⟨ic,J0⟩:∃ic:Nat,s.c=ic:=⟨s.c.toNat,by omega⟩;obtain⟨nb,J1⟩:∃nb,(pl y s.b).1=nb:=⟨_,rfl⟩;obtain⟨nc,J2⟩:∃nc,(pl y s.c).1=nc:=⟨_,rfl⟩;obtain⟨xa,J3⟩:∃xa,(pl y s.a).2=xa:=⟨_,rfl⟩;rw[J3]at I1;rw[J1]at I3;rw[J2]at I5;rw[F4]at F0 I0;rw[I9]at H7 I3;rw[J0]at H8 I5;rw[aR]at I0 I3 I5;have J4:ia<kl:=by have:=Q.out;omega
    have J5:ib<kl:=by have:=Q.out;omega
    have J6:ic<kl:=by have:=Q.out;omega
    rw[H3]at C5;have E6:Hid (iK X.fs g (d+1) F 0 o r.s=(gb (qm xa nb nc) λ_=>iK X.fs f (d+1) F (k+1) y) r1.s):=by rw[T.out,LZ H3,J3,J1,J2];rfl
    have J7:=Hq B3.out.1 I1 nb;have J8:Hid (∀W,az w1 W->(nb<0\/((ie r1.s xa).length:Int)<=nb)->G (kz 3) W):=λW E1 h1=>by
     rw[<-U.out,Z.out,E6.out,gS (wh h1)];obtain⟨E3,E4,E5⟩:=E0 W E1;exact⟨r1,d+1,E3,B3.out.2.1.trans E4,.inr ⟨3,rfl,rfl⟩⟩
    have J9:Hid (∀W K0 K1,az w1 W->(¬(nb<0\/((ie r1.s xa).length:Int)<=nb)/\∃n j,xa=some j/\r1.ab[j]?=some (K0,n)/\K1=nb.toNat)->LW X fb q u F w r d ob g o (W.setCell (jB K0 K1) (jV nc)) (k+1)/\iX X.P (W.setCell (jB K0 K1) (jV nc))<iX X.P wr):=by
     rintro W K0 K1 E1 ⟨h1,n,j,rfl,D2,rfl⟩;obtain⟨E3,E4,E5⟩:=E0 W E1;obtain⟨E,H⟩:=E3.putA (j:=nb.toNat) (n:=nc) D2;refine D _ (r1.put1 j nb.toNat nc) y (k+1) f E (E4.trans H.no) (E5.mono (H.blk ob E5.lt (E5.notX E3) (λe=>e)) H.pre) A9.out.2.2.2.1 G4 D8.out.1 ?_ (cC _);rw[E6.out,ft (z8 h1)];rfl
    clear D3 D7 D5 D4 M H3 D9 F4 I9 J0 J1 J2 J3 E7 E8 H4 I H5 H6 I1;rcases J7 with⟨h1,m⟩|⟨K0,n,j,I,K2,h1,h2,D2,D3,D4,D5,m⟩
    ·have K3:=jI m;have K4:=jI (λW (E1:az w1 W)=>J8 W E1 h1);clear m h1
     go_wp2_with fail
     refine wp_region_held_drew (S:=(λw'=>w'.cell? (jB gs (B9+k*10+2))=some (jV (ia:Int))/\w'.cell? (jB gs (B9+k*10+3))=some (jV (ib:Int))/\w'.cell? (jB gs (B9+k*10+4))=some (jV (ic:Int))/\w'.cell? (jB ob (ia*2+1))=some (jL I6 I7 I8)/\w'.cell? (jB ob (ib*2))=some (jV nb)/\w'.cell? (jB ob (ic*2))=some (jV nc))) (by kernel_rfl) ?_ (λK5=>?_)
     ·exact⟨F0,H7,H8,I0,I3,I5⟩
     refine iW 0 K5 ?_;simp only[Act.put,zS];refine iW 1 K5 ?_;simp only[Act.put,zS];refine iW 2 K5 ?_;simp only[Act.put,zS];refine iW 3 K5 ?_;simp only[Act.put,zS];refine iW 4 K5 ?_;simp only[Act.put,zS];refine iW 5 K5 ?_;simp only[Act.put,zS];refine iW 6 K5 ?_;simp only[Act.put,zS];refine iW 7 K5 ?_;simp only[Act.put,zS];refine iW 8 K5 ?_;simp only[Act.put,zS];refine iW 9 K5 ?_;simp only[Act.put,zS];refine iW 10 K5 ?_;simp only[Act.put,zS];refine iW 11 K5 ?_;simp only[Act.put,zS];refine iW 12 K5 ?_;simp only[Act.put,zS];refine iW 13 K5 ?_;simp only[Act.put,zS];refine iW 14 K5 ?_;simp only[Act.put,zS];refine iW 15 K5 ?_;simp only[Act.put,zS];refine iW 17 K5 ?_;simp only[Act.put,zS];refine iW 18 K5 ?_;simp only[Act.put,zS];refine iW 19 K5 ?_;simp only[Act.put,zS];refine iW 20 K5 ?_;simp only[Act.put,zS];refine iW 21 K5 ?_;simp only[Act.put,zS];refine iW 22 K5 ?_;simp only[Act.put,zS];refine iW 23 K5 ?_;simp only[Act.put,zS];refine iW 24 K5 ?_;simp only[Act.put,zS];refine wpAnyH_ready (rs:=[16]) (by kernel_rfl) (by simp) ?_;refine AllReadyH.cons (o:={dst:=some 121,op:=Op.call {callee:=Callee.value (Operand.func 81),args:=#[Operand.tmp 112,Operand.tmp 120],argTypes:=#[22,2]},type:=181,pos:= "run.go:82",after:=#[⟨7,.data⟩,⟨15,.data⟩],guard:=none}) rfl (fun K K6=>?_) AllReadyH.nil
     go_simp
     refine(K3 _).mono ?_;rintro e K7 ⟨rfl,rfl⟩;exact⟨rfl,K4 _ (by repeat first|exact aJ _ _|refine bF ?_)⟩
    ·obtain⟨K1,K8⟩:=aB nb.toNat;rw[<-K8]at D4 D5;have K3:Hid (∀W,aA 81 #[jL I6 I7 I8,jV nb] W λe w'=>e=jR (jQ (some (jB K0 K1)))/\w'=W):=by rw[K8];exact m
     have K9:Hid (¬(nb<0\/((ie r1.s xa).length:Int)<=nb)/\∃n j,xa=some j/\r1.ab[j]?=some (K0,n)/\K1=nb.toNat):=⟨h1,n,j,I,K2,K8⟩;have L0:K0≠ob:=λe=>B3.out.2.2.1.notX B3.out.1 (.inr (.inl (aT.2 ⟨(K0,n),aM K2,e⟩)));have L1:K0≠gs:=λe=>by
      have z:=B3.out.1.lo K0 (aT.2 ⟨(K0,n),aM K2,rfl⟩);have A:=fE l.c0;have B:=J.size;have C:=B3.out.1.lt;omega
     clear m h1 I K2 h2 D2 D3 K8
     go_wp2_with fail
     go_region_held3(λw'=>w'.cell? (jB gs (B9+k*10+2))=some (jV (ia:Int))/\w'.cell? (jB gs (B9+k*10+3))=some (jV (ib:Int))/\w'.cell? (jB gs (B9+k*10+4))=some (jV (ic:Int))/\w'.cell? (jB ob (ia*2+1))=some (jL I6 I7 I8)/\w'.cell? (jB ob (ib*2))=some (jV nb)/\w'.cell? (jB ob (ic*2))=some (jV nc))
      (first|(go_keep;done)|((try dsimp only);refine⟨?_,?_,?_,?_,?_,?_⟩<;>first|(go_keep;done)|(rw[World.cell?_setCell_far _ _ _ _ (by first|exact L1|exact L0)];first|assumption|(go_keep;done)|(simp[*];done))|(go_simp;done)|(simp[*];done)|assumption))
      (first|(go_at_call 81;refine(K3 _).mono ?_;rintro e K7 ⟨rfl,rfl⟩))
     all_goals
      go_wp2;obtain⟨G2,G3⟩:=J9 w1.drew K0 K1 (aJ _ _).drew K9
      exact⟨⟨k+1,by simp,G2⟩,G3⟩
   have m:AD s.code:=by show s.code=1\/s.code=2\/s.code=3\/s.code=7\/s.code=9\/s.code=10\/s.code=11\/s.code=14;omega
   have E6:Hid (iK X.fs g (d+1) F 0 o r.s=(gb (eI X.fs f (d+1) s y) λv=>iK X.fs f (d+1) F (k+1) (y.set s.dst.toNat v)) r1.s):=by rw[T.out,Nw m];rfl
   have z:=fP (λout=>by rw[<-E6.out];exact Y out);have A:Hid (∀W,az w1 W->aA 82 #[ptr X.P,jQ (some (jB gs (B9+k*10))),jL (some (jA ob)) kl kl] W (ur X W r1 (d+1) (eI X.fs f (d+1) s y r1.s))):=λW E1=>by
    obtain⟨E3,E4,E5⟩:=E0 W E1;have:=Nu J K l C6 m (L f D8.out.2) E3 E5 A9.out.2.2.2.1 (by rw[C7.out];exact V) z.1;rw[C7.out]at this;exact this
   obtain⟨B,C⟩:=C6.dst m;have I:=J.cell B3.out.1 l.c1;obtain⟨id,T⟩:∃id:Nat,s.dst=id:=⟨s.dst.toNat,by omega⟩;rw[T]at I;have Y:Hid (s.dst.toNat=id):=by rw[T];rfl
   have F6:id<kl:=by have:=Q.out;omega
   obtain⟨cd,K⟩:∃cd,s.code=cd:=⟨_,rfl⟩;rw[K]at C5 D7 D3 D5 D4 M H3;have L:(cd==8)=false:=by simpa using D7
   have V:(cd==4)=false:=by simpa using D3
   have I:(cd==5)=false:=by simpa using D4
   have Q:(cd==6)=false:=by simpa using D5
   have L:(cd==12)=false:=by simpa using H3
   have V:(cd==13)=false:=by simpa using M
   have I:Hid (∀W,az w1 W->∀Q O C8 L,Sm X.w0 X.P X.fv O C8 L->Fz X.P iL W r1 O C8->eI X.fs f (d+1) s y r1.s= .error (Q,C8.s.out)->G (kz Q) O):=λW E1 Q O C8 L h1 h2 D2=>by
    rw[<-U.out,Z.out,E6.out,gS D2];exact⟨C8,L,h1,B3.out.2.1.trans ((Fz.below E1).trans h2.no),.inr ⟨Q,rfl,rfl⟩⟩
   have M:Hid (∀W,az w1 W->∀O C8,Sm X.w0 X.P X.fv O C8 (d+1)->Fz X.P iL W r1 O C8->nO O ob C8.ab y):=λW E1 O C8 h1 h2=>by
    obtain⟨E3,E4,E5⟩:=E0 W E1;exact E5.mono (h2.blk ob E5.lt (E5.notX E3) (λe=>e)) h2.pre
   have V:Hid (∀W,az w1 W->∀O C8 U Z I6 I7 I8,Sm X.w0 X.P X.fv O C8 (d+1)->Fz X.P iL W r1 O C8->eI X.fs f (d+1) s y r1.s= .ok ((U,Z),C8.s)->pA C8.ab Z (jL I6 I7 I8)->LW X fb q u F w r d ob g o ((O.setCell (jB ob (id*2)) (jV U)).setCell (jB ob (id*2+1)) (jL I6 I7 I8)) (k+1)/\iX X.P ((O.setCell (jB ob (id*2)) (jV U)).setCell (jB ob (id*2+1)) (jL I6 I7 I8))<iX X.P wr):=λW E1 O C8 U Z I6 I7 I8 h1 h2 D2 D3=>by
    have F1:=M W E1 O C8 h1 h2;have L2:=F1.notX h1;have L3:=vu (wO X.fs f) (d+1) s y r1.s _ _ D2;refine D _ C8 (y.set id (U,Z)) (k+1) f ((h1.setL L2 N.out.2.2).setL L2 N.out.2.2) (((Fz.below E1).trans h2.no).setE.setE) (F1.put (x:=(U,Z)) (by rw[C7.out];exact F6) D3) (by rw[cP];exact A9.out.2.2.2.1) G4 D8.out.1 ?_ L3;rw[E6.out,ft D2,Y.out]
   have N:Hid (∀O C8,Sm X.w0 X.P X.fv O C8 (d+1)->O.cell? (jB gs (B9+k*10+1))=some (jV (id:Int))):=λO C8 h1=>by
    have:=J.cell h1 l.c1;rw[T]at this;exact this
   have f:Hid (∀O C8,nO O ob C8 y->∃I3 D,O.cell? (jB ob (id*2))=some I3/\O.cell? (jB ob (id*2+1))=some D/\O.frozen? (jB ob (id*2))=false/\O.frozen? (jB ob (id*2+1))=false):=λO C8 h=>by
    obtain⟨Y,A0,A1,_⟩:=h.get (i:=(id:Int)) (by omega) (by rw[C7.out];omega);rw[aR]at A0 A1;exact⟨_,_,A0,A1,h.free _,h.free _⟩
   clear m z B C T K D9
   go_wp2_with fail
   go_region_with(go_at_call 82;refine(A _ (by repeat first|exact aJ _ _|refine bF ?_)).mono ?_;rintro e O ⟨C8,L,E,H,⟨⟨U,Z⟩,I6,I7,I8,rfl,J,rfl,l⟩|⟨Q,J,rfl⟩⟩;rotate_left;exact⟨rfl,I _ (by repeat first|exact aJ _ _|refine bF ?_) Q _ C8 L E H J⟩;have H2:Hid (LW X fb q u F w r d ob g o ((O.setCell (jB ob (id*2)) (jV U)).setCell (jB ob (id*2+1)) (jL I6 I7 I8)) (k+1)/\iX X.P ((O.setCell (jB ob (id*2)) (jV U)).setCell (jB ob (id*2+1)) (jL I6 I7 I8))<iX X.P wr):=V _ (by repeat first|exact aJ _ _|refine bF ?_) O C8 U Z I6 I7 I8 E H J l;have y:=N O C8 E;obtain⟨I3,D,m,z,A,B⟩:=f O C8.ab (M _ (by repeat first|exact aJ _ _|refine bF ?_) O C8 E H);clear E H J l)
   all_goals
    go_wp2;exact⟨⟨k+1,by simp,H2.out.1⟩,H2.out.2⟩
theorem Ho{X:Mx}(a:oU X)(b:ux X)(g:Nat):uy X g:=Nat.strongRecOn g (λg c=>Dv a b c)
end Go.Proofs.YtnfhpdbbfejioaaGreatDoor.Mid
