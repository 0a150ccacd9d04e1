/- PC -/
import Derived.Test.YtnfhpdbbfejioaaGreatDoorJ13
set_option linter.unusedVariables false
set_option linter.unusedSimpArgs false
set_option maxRecDepth 100000
set_option maxHeartbeats 16000000
namespace Go.Proofs.YtnfhpdbbfejioaaGreatDoor.Mid
open Go Go.RowKit
variable {w W:jW}{P:Nat}{b:Int}{c d:jU}{R:Nat->Nat}{s':Wr}
theorem zy{a:Func}{p:Tmp}(h:a.results=#[.cell p 103])(b:Array Value)(w:jW)(g:Nat)(c d e f:jU)(i:b.getD p undef=jP g)(j:w.heap[g]?=some (jC #[c,d,e,f] 103)):
  (results a b).run Tryz.prog w= .ok (.agg #[c,d,e,f]) w:=by
 have h1:(loadVar 103 (jA g)).run Tryz.prog w= .ok (.agg #[c,d,e,f]) w:=cm w g 103 103 _ (0,0) _ j Tryz.underlying103 rfl (by kernel_rfl);rw[gC h,i];simp[asAddr];exact h1
abbrev oY(W:jW)(g:Nat)(a b c d:jU):jW:=(((W.setCell (jA g) a).setCell (jB g 1) b).setCell (jB g 2) c).setCell (jB g 3) d
theorem CM(W:jW)(g:Nat)(t:TypeId)(a b c d e f i j:jU)(h:W.heap[g]?=some (jC #[a,b,c,d] t)):(oY W g e f i j).heap[g]?=some (jC #[e,f,i,j] t):=by
 have k:=aH _ g 0 _ t e h;have h1:=aH _ g 1 _ t f k;have h2:=aH _ g 2 _ t i h1;exact aH _ g 3 _ t j h2
theorem zA(W:jW)(g:Nat)(a c d e:jU)(b:Nat)(f:b≠g):(oY W g a c d e).heap[b]?=W.heap[b]?:=by
 rw[aG _ _ _ _ f,aG _ _ _ _ f,aG _ _ _ _ f,aG _ _ _ _ f]
theorem gT(W:jW)(g:Nat)(a c d f:jU)(b i:Nat)(h:¬b=g):(oY W g a c d f).cell? (jB b i)=W.cell? (jB b i):=by
 rw[World.cell?_setCell_far _ _ _ _ (λe=>h e.symm),World.cell?_setCell_far _ _ _ _ (λe=>h e.symm),World.cell?_setCell_far _ _ _ _ (λe=>h e.symm),World.cell?_setCell_far _ _ _ _ (λe=>h e.symm)]
theorem kY(W:jW)(g:Nat)(a b c d:jU):oY W.drew g a b c d=(oY W g a b c d).drew:=rfl
structure Qy (w:jW) (P:Nat) (yn:ByteArray) (at':Int) (vp vb:jU) (W:jW):Prop where
 b0:W.heap[w.heap.size]?=some (jC #[jT yn,jV at',vp,vb] 86)
 b1:W.heap[w.heap.size+1]?=some (jC #[jT ⟨#[]⟩,jV 0,jS,jS] 103)
 bel:az w W
theorem Qy.on{a:ByteArray}{W':jW}{R':Nat->Nat}(h:Qy w P a b c d W)(e:P=w.heap.size+3)(f:R w.heap.size=0)(h1:R (w.heap.size+1)=0)(g:Lw P R R' W W'):Qy w P a b c d W':=
 ⟨(g.keep _ (aC.1 h.b0).1 (.inl f)).trans h.b0,(g.keep _ (aC.1 h.b1).1 (.inl h1)).trans h.b1,h.bel.trans (g.bel.mono (by omega))⟩
theorem Od{a:Nat}{nm:By}{n:Nat}{e f g j:jU}(h:Qy w P ⟨nm.toArray⟩ b c d W)(k:Wc R W P a e f g j s')(l:R w.heap.size=0)(h1:R (w.heap.size+1)=0)(m:w.heap.size<P-1):
  (oY W (w.heap.size+1) (jT ⟨nm.toArray⟩) (jV (n:Int)) e f).heap[w.heap.size+1]?=some (jC #[jT ⟨nm.toArray⟩,jV (n:Int),e,f] 103)/\QH nm n s' w (jR (.agg #[jT ⟨nm.toArray⟩,jV (n:Int),e,f])) (oY W (w.heap.size+1) (jT ⟨nm.toArray⟩) (jV (n:Int)) e f):=by
 have hk:=zA W (w.heap.size+1) (jT ⟨nm.toArray⟩) (jV (n:Int)) e f;refine⟨CM W _ _ _ _ _ _ _ _ _ _ h.b1,e,f,rfl,?_,?_⟩
 ·exact⟨R,P,a,_,_,k.other h.b1 (by decide) h1 hk (by simp),m⟩
 ·have o:∀(X:jW)(i:Nat)(v:jU),Below w.heap.size X (X.setCell ⟨w.heap.size+1,i,none⟩ v):=λX i v=>(aJ _ _).setCell (p:=⟨w.heap.size+1,i,none⟩) (dK _) _;exact h.bel.trans ((((o _ _ _).trans (o _ _ _)).trans (o _ _ _)).trans (o _ _ _))
theorem um(w:World)(nm:By)(c:Int)(d f:Value)(j:Nat)(l:List (By×Int))(o:Tr)(q:List Value)(r:fy (Lo w.heap.size) w 144 2 d l.length (lA l))(s:fy (Lo w.heap.size) w 147 7 f j q)(A:ey (Lo w.heap.size) w o q){u:Unit}(B:AB l o=some (u,s')):
  aA 43 #[.agg #[.string ⟨nm.toArray⟩,jV c,d,f]] w (QH nm l.length s' w):=by
 obtain⟨C,D,E,B⟩:=d_ B;obtain⟨F,s2,H,I⟩:=d_ B;obtain⟨J,cp,rfl⟩:=eh r.1;obtain⟨K,cb,rfl⟩:=eh s.1;obtain⟨L,M⟩:∃y:ByteArray,y=⟨nm.toArray⟩:=⟨_,rfl⟩;obtain⟨W0,N⟩:=aB ((w.alloc (.cells #[.string L,jV c,.slice J l.length cp,.slice K j cb] 86)).alloc (.cells #[.string ⟨#[]⟩,jV 0,jS,jS] 103));have O:W0.heap.size=w.heap.size+2:=by rw[N];simp
 have Q:az w W0:=by rw[N];exact((eL w _).trans ((eL _ _).mono (by simp)))
 have T:W0.heap[w.heap.size]?=some (.cells #[.string L,jV c,.slice J l.length cp,.slice K j cb] 86):=by
  rw[N,ed (by simp)];exact heap_alloc_last _ _
 have U:W0.heap[w.heap.size+1]?=some (.cells #[.string ⟨#[]⟩,jV 0,jS,jS] 103):=by
  rw[N];have:=heap_alloc_last (w.alloc (.cells #[.string L,jV c,.slice J l.length cp,.slice K j cb] 86)) (.cells #[.string ⟨#[]⟩,jV 0,jS,jS] 103);simpa using this
 obtain⟨W4,V⟩:=aB ((W0.alloc (.map #[] 0)).alloc (.cells #[jS,jS,.map (some W0.heap.size),jS,jS,jS,jV 0,jV 0,jV 0,jV (-1),jV 0] 159));have Y:=Qf W0;rw[<-V]at Y;have Z:az W0 W4:=by rw[V];exact((eL W0 _).trans ((eL _ _).mono (by simp)))
 have d:W4.heap.size=W0.heap.size+2:=by rw[V];simp
 obtain⟨P,f⟩:=aB (w.heap.size+3);obtain⟨A0,A1⟩:=aB (w.heap.size+2);obtain⟨R0,A2⟩:=aB (DD P);rw[show W0.heap.size+1=P by omega,show W0.heap.size=A0 by omega,<-A2]at Y;have A3:Qy w P L c (.slice J l.length cp) (.slice K j cb) W4:=⟨(Z.block _ (by omega)).trans T,(Z.block _ (by omega)).trans U,Q.trans (Z.mono (by omega))⟩;have A4:R0 w.heap.size=0:=by rw[A2];unfold DD;rw[if_neg (by omega),if_neg (by omega)]
 have A5:R0 (w.heap.size+1)=0:=by rw[A2];unfold DD;rw[if_neg (by omega),if_neg (by omega)]
 have A6:∀W:World,(Instr.makeMap 92 none).run Tryz.prog W= .ok (.map (some W.heap.size)) (W.alloc (.map #[] 0)):=λW=>by simp[Instr.makeMap,go_sem]
 obtain⟨n,A7⟩:=aB l.length;have A8:Hid (∀R' W,Lw P R0 R' W4 W->Qy w P L c (.slice J n cp) (.slice K j cb) W/\R' w.heap.size=0/\R' (w.heap.size+1)=0):=λR' W A9=>by
  rw[A7];exact⟨A3.on f A4 A5 A9,(A9.role _ (by omega)).trans A4,(A9.role _ (by omega)).trans A5⟩
 have B0:Hid (∀W,az w W->W.ownsRow 0 144 2 (.slice J n cp) n (lA l)):=λW B1=>by
  rw[A7];exact(eJ.row (S:=Lo w.heap.size) (λb cs t B2 _ hc=>by rw[B1.block b B2];exact hc) (by decide) r.1 r.2)
 have B3:Hid (∀W,Below (P-1) W4 W->fy (Lo (P-1)) W 147 7 (.slice K j cb) j q/\ey (Lo (P-1)) W o q):=λW B1=>by
  have hk:eJ (Lo w.heap.size) w W:=λb cs t B2 _ hc=>by
   have B4:b<w.heap.size:=B2;rw[B1.block b (by omega),A3.bel.block b B2];exact hc
  exact⟨(s.kept hk (by decide)).mono (λb B2 _=>by have B4:b<w.heap.size:=B2;show b<P-1;omega),ey.mono (λb B2 _=>by have B4:b<w.heap.size:=B2;show b<P-1;omega) _ _ (ey.kept hk _ _ A)⟩
 have B5:Hid (∃B6 si,fC B6 W4 P A0 si/\Lw P R0 B6 W4 W4/\ku (l.drop 0) si=some (C,D)):=⟨R0,uh,Y,Lw.refl _ _ _,E⟩;have B7:=jI A7;have B8:Hid (P=w.heap.size+3/\A0=w.heap.size+2/\W4.heap.size=w.heap.size+4):=⟨f,A1,by omega⟩;have B9:n<=9223372036854775807:=by
  rcases r.1.2 with⟨_,e⟩|⟨g,C0,C1,_,_,_,C2,C3,_⟩
  ·omega
  ·unfold maxLen at C3;omega
 obtain⟨G,C4⟩:=aB (QH nm l.length s' w);have C5:=jI C4;have C6:=jI M;rw[<-C4,<-M,<-A7];have C7:W4=(((w.alloc (.cells #[.string L,jV c,.slice J n cp,.slice K j cb] 86)).alloc (.cells #[.string ⟨#[]⟩,jV 0,jS,jS] 103)).alloc (.map #[] 0)).alloc (.cells #[jS,jS,.map (some (w.heap.size+1+1)),jS,jS,jS,jV 0,jV 0,jV 0,jV (-1),jV 0] 159):=by
  rw[V,O,N,A7]
 have c:Hid (∀B6 wr si,fC B6 wr P A0 si->True):=λ_ _ _ _=>trivial;have C8:Hid (∀R' W,fC R' W P A0 s'->Lw P R0 R' W4 W->∃C9 nt D0 D1 D2 cv,W.cell? (jA w.heap.size)=some (.string L)/\W.cell? (jB w.heap.size 2)=some (.slice J n cp)/\W.cell? (jA P)=some (.slice C9 nt D0)/\W.cell? (jB P 1)=some (.slice D1 D2 cv)/\W.heap[w.heap.size+1]?=some (.cells #[.string ⟨#[]⟩,jV 0,jS,jS] 103)/\(oY W (w.heap.size+1) (.string L) (jV (n:Int)) (.slice C9 nt D0) (.slice D1 D2 cv)).heap[w.heap.size+1]?=some (.cells #[.string L,jV (n:Int),(.slice C9 nt D0),(.slice D1 D2 cv)] 103)/\G (.returned (.agg #[.string L,jV (n:Int),(.slice C9 nt D0),(.slice D1 D2 cv)])) (oY W (w.heap.size+1) (.string L) (jV (n:Int)) (.slice C9 nt D0) (.slice D1 D2 cv))):=λR' W D3 A9=>by
  obtain⟨hk,D4,D5⟩:=A8 R' W A9;obtain⟨D6,D7,D8,D9,E0⟩:=D3;rw[M]at hk;obtain⟨E1,E2⟩:=Od (n:=n) hk E0 D4 D5 (by omega);obtain⟨C9,D0,rfl⟩:=eh E0.t;obtain⟨E3,E4,E5,E6⟩:=E0.st;obtain⟨D1,cv,rfl⟩:=eh E5;refine⟨C9,_,D0,D1,_,cv,?_,jc 2 hk.b0,jc 0 E0.blk,jc 1 E0.blk,hk.b1,?_,?_⟩
  ·rw[M];exact jc 0 hk.b0
  ·rw[M];exact E1
  ·rw[M,C4,<-A7];exact E2
 clear r s A B E M N O Q T U Y Z d A2 A3 A4 A5 A7 C4 V A1 c;clear W0;go_enter Tryz.func43,Tryz.ntmps43
 go_upto_region 3 with fail
 rw[<-C7];clear C7;obtain⟨r,s,A⟩:=B8.out;rw[show w.heap.size+1+1+1=P by omega];clear r s A f
 go_wp2_with fail
 go_loopw [13] (λv wr=>∃i:Nat,i<=n/\v=jV i/\Hid (∃B6 si,fC B6 wr P A0 si/\Lw P R0 B6 W4 wr/\ku (l.drop i) si=some (C,D))) (λv _=>n-(intOf v).toNat)
 case atStart=>exact⟨0,aQ _,rfl,B5⟩
 case round=>
  obtain⟨i,M,rfl,N⟩:=hrel;by_cases Q:i<n
  ·obtain⟨⟨T,U⟩,V⟩:∃p,l[i]?=some p:=⟨l[i]'(by have:=B7.out;omega),aI _⟩;obtain⟨B6,si,D3,A9,Y⟩:=N.out;obtain⟨k,Z,v,d,c,f,r⟩:=yO V Y;dsimp only at c f;obtain⟨s,A,M,rfl⟩:=tJ f;obtain⟨d,E7⟩:=kV l i _ V;have E8:=B0 wr (A8 B6 wr A9).1.bel;obtain⟨g,C0,E9,F0,-⟩:=E8.form (by omega);injection E9 with E e4 e5;subst E e5;clear e4;obtain⟨E,F1⟩:∃y:ByteArray,y=⟨T.toArray⟩:=⟨_,rfl⟩;have F2:wr.cell? (jB g (i*2))=some (.string E):=by
    have:=E8.cells (g:=g) rfl (i*2) _ d;rw[kw]at this;rw[F1];exact this
   have F3:wr.cell? (jB g (i*2+1))=some (jV U):=by
    have:=E8.cells (g:=g) rfl (i*2+1) _ E7;rw[kw]at this;exact this
   clear d E7 E8 Y V;have V:=D3;obtain⟨d,F4,F5,F6⟩:=mJ D3 A9 #[.string E,jV U] 144;obtain⟨F7,F8⟩:=aB (wr.alloc (.cells #[.string E,jV U] 144));obtain⟨b,B2⟩:=aB wr.heap.size;rw[<-F8,<-B2]at F5;rw[<-F8]at d F4;rw[<-B2]at F6;have F9:fC B6 F7.drew P A0 si:=d.on (λ_ _=>rfl) (eH _ _);have G0:Lw P R0 B6 W4 F7.drew:=F4.trans ⟨eH _ _,λ_ _=>rfl,λ_ _ _=>rfl⟩;have G1:=(mr _ _).trans F5;have G2:=jI (ri F9 c);have G3:F7.drew.cell? (jB P 2)=some (.map (some A0)):=by
    obtain⟨_,_,_,_,G4⟩:=F9;exact jc 2 G4.blk
   have G5:F7.drew.cell? (jA b)=some (.string E):=jc 0 G1;have G6:F7.drew.cell? (jB b 1)=some (jV U):=jc 1 G1;have G7:Hid (∀G8 G9,fC G9 G8 P A0 Z->Lw P B6 G9 F7.drew G8->∃Z,(Instr.mapUpdate 92 (.map (some A0)) (.string E) (jV (k:Int))).run Tryz.prog G8= .ok () Z/\(G8.cell? (jB P 2)=some (.map (some A0))/\G8.cell? (jA b)=some (.string E)/\G8.cell? (jB b 1)=some (jV U))/\(Z.cell? (jB P 2)=some (.map (some A0))/\Z.cell? (jA b)=some (.string E)/\Z.cell? (jB b 1)=some (jV U))/\Hid (∃B6 si,fC B6 Z P A0 si/\Lw P R0 B6 W4 Z/\ku (l.drop (i+1)) si=some (C,D))):=λG8 G9 l C=>by
    obtain⟨D,D,D,D,G4⟩:=l;obtain⟨Z,E1,E2,D⟩:=G4.bind T k A s M;obtain⟨T,H0⟩:=C.box G1 F6;obtain⟨H1,-⟩:=D.box T H0;refine⟨Z,by rw[F1];exact E1,⟨jc 2 G4.blk,jc 0 T,jc 1 T⟩,⟨jc 2 E2.blk,jc 0 H1,jc 1 H1⟩,G9,_,⟨_,_,_,_,E2⟩,(G0.trans C).trans D,r⟩
   have D:Hid (F7=wr.alloc (.cells #[.string E,jV U] 144)/\b=wr.heap.size):=⟨F8,B2⟩;clear D3 A9 V c f r s A M d F4 F6 F9 G0 G1 F1 F5
   go_upto_region 5 with fail
   rw[<-F8,<-B2];clear F8 B2 F2 F3
   go_region_held3(λw'=>w'.cell? (jB P 2)=some (.map (some A0))/\w'.cell? (jA b)=some (.string E)/\w'.cell? (jB b 1)=some (jV U))
    (first|exact⟨by assumption,by assumption,by assumption⟩|(go_keep;done)|((try dsimp only);refine⟨?_,?_,?_⟩<;>first|assumption|(go_keep;done)|(go_simp;done)|(simp[*];done)))
    (first
    |(go_at_call 68;refine G2.mono ?_;rintro e G8 ⟨rfl,G9,T,U⟩;obtain⟨Z,c,⟨l,C,f⟩,⟨r,s,A⟩,M⟩:=G7 G8 G9 T U;clear T U))
   all_goals
    go_wp2;exact⟨⟨i+1,by omega,by go_num,M⟩,by simp[intOf];omega⟩
  ·obtain rfl:i=n:=by omega
   obtain⟨B6,si,D3,A9,Y⟩:=N.out;rw[bg (by have:=B7.out;omega)]at Y;injection Y with Y;injection Y with h1 h2;subst h2;obtain⟨E,O,V⟩:=A8 B6 wr A9;obtain⟨d,D⟩:=B3 wr A9.bel;have Z:=jI (pG 5000 100 B6 wr P A0 _ s2 o _ j q F D3 d D H);have l:wr.cell? (jB w.heap.size 3)=some (.slice K j cb):=jc 3 E.b0;have C:=jI A9;clear D3 A9 E O V d D H h1 B3 B0 B5 N
   go_wp2_with(go_at_call 69;fail)
   refine Z.mono ?_;rintro e w1 ⟨rfl,c,f,r⟩;have s:=jI (C.trans r);clear r Z l;obtain⟨A,Y,T,U,M⟩:=f;obtain⟨E3,o,q,F⟩:=M.st;obtain⟨j,cs,rfl⟩:=eh q;obtain⟨m,K⟩:=aB s2.ss.length;rw[<-K]at q;have H:w1.cell? (jB P 1)=some (.slice j m cs):=by rw[K];exact jc 1 M.blk
   have C3:m<=1000000:=by have:=M.ok.ss;omega
   have O:=jI K;have N:Hid (fC c w1 P A0 s2):=⟨_,_,_,_,M⟩;clear M K A6;by_cases E:m=0
   ·subst E;have V:=bS.1 O.symm;have d:(lb kO λz=>gX {fd with code:=8,a:=z}) s2=some (u,s'):=by
     unfold Dj pX at I;rw[V]at I;exact I
    obtain⟨z,D,Z,l⟩:=d_ d;have C:Hid (∀R W,fC R W P A0 s2->aA 71 #[ptr P] W (lR P R A0 W (z:Int) D)):=λR W h=>nU h Z;have r:Hid (∀R W,fC R W P A0 D->aA 70 #[ptr P,.agg #[jV 8,jV 0,jV (z:Int),jV 0,jV 0,jV 0,.string ⟨#[]⟩,jV 0,.string ⟨#[]⟩,jS]] W (kR P R A0 W s')):=λR W h=>ny 8 0 (z:Int) 0 0 0 ⟨#[]⟩ 0 ⟨#[]⟩ [] none 0 0 h (gG.none _ _) l;clear o q F V d Z l B I
    go_wp2_with(go_at_call 71;fail)
    refine(C c w1 N).mono ?_;rintro e A ⟨rfl,Y,T,U⟩;have f:=jI (s.trans U);have j:=jI (r Y A T);clear T U
    go_wp2_with(go_at_call 70;fail)
    refine j.mono ?_;rintro e H ⟨rfl,M,K,H2⟩;have H3:=f.trans H2;clear H2;have F9:fC M H.drew P A0 s':=K.on (λ_ _=>rfl) (eH _ _);have G0:Lw P R0 M W4 H.drew:=H3.trans ⟨eH _ _,λ_ _=>rfl,λ_ _ _=>rfl⟩;obtain⟨C9,nt,D0,D1,D2,cv,H4,H5,H6,H7,H8,H9,I0⟩:=C8 M H.drew F9 G0;have I1:Hid ((oY H (w.heap.size+1) (.string L) (jV (i:Int)) (.slice C9 nt D0) (.slice D1 D2 cv)).drew.heap[w.heap.size+1]?=some (.cells #[.string L,jV (i:Int),(.slice C9 nt D0),(.slice D1 D2 cv)] 103)):=by
     rw[kY]at H9;exact H9
    have I2:Hid (G (.returned (.agg #[.string L,jV (i:Int),(.slice C9 nt D0),(.slice D1 D2 cv)])) (oY H (w.heap.size+1) (.string L) (jV (i:Int)) (.slice C9 nt D0) (.slice D1 D2 cv)).drew):=by
     rw[kY]at I0;exact I0
    have I3:¬P=w.heap.size+1:=by have:=B8.out;omega
    have I4:¬w.heap.size+1=P:=by have:=B8.out;omega
    have I5:=(mr _ _).symm.trans H8;have I6:H.cell? ⟨w.heap.size+1,0,none⟩=some (.string ⟨#[]⟩):=jc 0 I5;have I7:H.cell? ⟨w.heap.size+1,1,none⟩=some (jV 0):=jc 1 I5;have I8:H.cell? ⟨w.heap.size+1,2,none⟩=some jS:=jc 2 I5;have I9:H.cell? ⟨w.heap.size+1,3,none⟩=some jS:=jc 3 I5;have G5:=ea I5 0;have G6:=ea I5 1;have G3:=ea I5 2;have J0:=ea I5 3;clear F9 G0 H8 I5 H9 I0
    go_upto_region 11 with fail
    go_region_held3(λw'=>w'.cell? (jA w.heap.size)=some (.string L)/\w'.cell? (jB w.heap.size 2)=some (.slice J i cp)/\w'.cell? (jA P)=some (.slice C9 nt D0)/\w'.cell? (jB P 1)=some (.slice D1 D2 cv))
     (first|exact⟨by with_reducible assumption,by with_reducible assumption,by with_reducible assumption,by with_reducible assumption⟩|exact⟨(gT _ _ _ _ _ _ _ _ (by omega)).trans H4,(gT _ _ _ _ _ _ _ _ (by omega)).trans H5,(gT _ _ _ _ _ _ _ _ I3).trans H6,(gT _ _ _ _ _ _ _ _ I3).trans H7⟩)
     (fail)
    all_goals
     go_wp2;refine bodyPost_ret (zy Tryz.results43 _ _ (w.heap.size+1) _ _ _ _ rfl I1) rfl ?_
     exact I2
   ·obtain⟨x,J1,J2⟩:∃x,s2.ss[m-1]?=some x/\pX s2.ss=(x.code==8):=by
     have Q:m-1<s2.ss.length:=by have:=O.out;omega
     refine⟨s2.ss[m-1]'Q,aI Q,?_⟩;unfold pX;rw[List.getLast?_eq_getElem?,<-O.out,aI Q]
    obtain⟨y,Q⟩:∃y,E3[m-1]?=some y:=⟨E3[m-1]'(by have:=O.out;omega),aI _⟩;obtain⟨gs,C0,E9,F0,-⟩:=q.form (by omega);injection E9 with G6 g4 g5;subst G6 g5;clear g4;have O:w1.cell? ⟨gs,(m-1)*10,none⟩=some (jV x.code):=by
     have:=q.cells (g:=gs) rfl ((m-1)*10+0) (jV x.code) (by rw[sJ s2.ss E3 (m-1) x y J1 Q 0 (by omega)];rfl);rw[kw]at this;exact this
    obtain⟨J3,J4⟩:=aB x.code;rw[<-J4]at O J2;obtain⟨J5,rfl⟩:∃J5,m=J5+1:=⟨m-1,by omega⟩;rw[dG]at O;have O:IntKind.i64.wrap (((J5+1:Nat):Int)-1)=(J5:Int):=by
     rw[IntKind.wrap_i64];omega
    have O:IntKind.i64.wrap (J5:Int)=(J5:Int):=by
     rw[IntKind.wrap_i64];omega
    clear o q F J1 Q J4 E F0;by_cases o:J3=8
    ·subst o;have V:s'=s2:=by
      unfold Dj at I;rw[if_pos (by rw[J2];rfl)]at I;injection I with I;injection I with _ I;exact I.symm
     subst V;clear B I J2;have K:=N.out;have H3:=s.out;have F9:fC c w1.drew P A0 s':=K.on (λ_ _=>rfl) (eH _ _);have G0:Lw P R0 c W4 w1.drew:=H3.trans ⟨eH _ _,λ_ _=>rfl,λ_ _ _=>rfl⟩;obtain⟨C9,nt,D0,D1,D2,cv,H4,H5,H6,H7,H8,H9,I0⟩:=C8 c w1.drew F9 G0;have I1:Hid ((oY w1 (w.heap.size+1) (.string L) (jV (i:Int)) (.slice C9 nt D0) (.slice D1 D2 cv)).drew.heap[w.heap.size+1]?=some (.cells #[.string L,jV (i:Int),(.slice C9 nt D0),(.slice D1 D2 cv)] 103)):=by
      rw[kY]at H9;exact H9
     have I2:Hid (G (.returned (.agg #[.string L,jV (i:Int),(.slice C9 nt D0),(.slice D1 D2 cv)])) (oY w1 (w.heap.size+1) (.string L) (jV (i:Int)) (.slice C9 nt D0) (.slice D1 D2 cv)).drew):=by
      rw[kY]at I0;exact I0
     have I3:¬P=w.heap.size+1:=by have:=B8.out;omega
     have I4:¬w.heap.size+1=P:=by have:=B8.out;omega
     have I5:=(mr _ _).symm.trans H8;have I6:w1.cell? ⟨w.heap.size+1,0,none⟩=some (.string ⟨#[]⟩):=jc 0 I5;have I7:w1.cell? ⟨w.heap.size+1,1,none⟩=some (jV 0):=jc 1 I5;have I8:w1.cell? ⟨w.heap.size+1,2,none⟩=some jS:=jc 2 I5;have I9:w1.cell? ⟨w.heap.size+1,3,none⟩=some jS:=jc 3 I5;have G5:=ea I5 0;have G6:=ea I5 1;have G3:=ea I5 2;have J0:=ea I5 3;clear F9 G0 H8 I5 H9 I0
     go_upto_region 11 with fail
     go_region_held3(λw'=>w'.cell? (jA w.heap.size)=some (.string L)/\w'.cell? (jB w.heap.size 2)=some (.slice J i cp)/\w'.cell? (jA P)=some (.slice C9 nt D0)/\w'.cell? (jB P 1)=some (.slice D1 D2 cv))
      (first|exact⟨by with_reducible assumption,by with_reducible assumption,by with_reducible assumption,by with_reducible assumption⟩|exact⟨(gT _ _ _ _ _ _ _ _ (by omega)).trans H4,(gT _ _ _ _ _ _ _ _ (by omega)).trans H5,(gT _ _ _ _ _ _ _ _ I3).trans H6,(gT _ _ _ _ _ _ _ _ I3).trans H7⟩)
      (fail)
     all_goals
      go_wp2;refine bodyPost_ret (zy Tryz.results43 _ _ (w.heap.size+1) _ _ _ _ rfl I1) rfl ?_
      exact I2
    ·have d:(lb kO λz=>gX {fd with code:=8,a:=z}) s2=some (u,s'):=by
      unfold Dj at I;rw[if_neg (by rw[J2];simpa using o)]at I;exact I
     have q:(J3 !=8)=true:=by simpa using o
     have F:((J5:Int)+1==0)=false:=by
      have:¬((J5:Int)+1=0):=by omega
      simpa using this
     obtain⟨z,D,Z,l⟩:=d_ d;have C:Hid (∀R W,fC R W P A0 s2->aA 71 #[ptr P] W (lR P R A0 W (z:Int) D)):=λR W h=>nU h Z;have r:Hid (∀R W,fC R W P A0 D->aA 70 #[ptr P,.agg #[jV 8,jV 0,jV (z:Int),jV 0,jV 0,jV 0,.string ⟨#[]⟩,jV 0,.string ⟨#[]⟩,jS]] W (kR P R A0 W s')):=λR W h=>ny 8 0 (z:Int) 0 0 0 ⟨#[]⟩ 0 ⟨#[]⟩ [] none 0 0 h (gG.none _ _) l;clear d Z l B I J2
     go_upto_region 10 with fail
     go_wp2_with(go_at_call 71;fail)
     refine(C c w1 N).mono ?_;rintro e A ⟨rfl,Y,T,U⟩;have f:=jI (s.trans U);have j:=jI (r Y A T);clear T U
     go_wp2_with(go_at_call 70;fail)
     refine j.mono ?_;rintro e H ⟨rfl,M,K,H2⟩;have H3:=f.trans H2;clear H2;have F9:fC M H.drew P A0 s':=K.on (λ_ _=>rfl) (eH _ _);have G0:Lw P R0 M W4 H.drew:=H3.trans ⟨eH _ _,λ_ _=>rfl,λ_ _ _=>rfl⟩;obtain⟨C9,nt,D0,D1,D2,cv,H4,H5,H6,H7,H8,H9,I0⟩:=C8 M H.drew F9 G0;have I1:Hid ((oY H (w.heap.size+1) (.string L) (jV (i:Int)) (.slice C9 nt D0) (.slice D1 D2 cv)).drew.heap[w.heap.size+1]?=some (.cells #[.string L,jV (i:Int),(.slice C9 nt D0),(.slice D1 D2 cv)] 103)):=by
      rw[kY]at H9;exact H9
     have I2:Hid (G (.returned (.agg #[.string L,jV (i:Int),(.slice C9 nt D0),(.slice D1 D2 cv)])) (oY H (w.heap.size+1) (.string L) (jV (i:Int)) (.slice C9 nt D0) (.slice D1 D2 cv)).drew):=by
      rw[kY]at I0;exact I0
     have I3:¬P=w.heap.size+1:=by have:=B8.out;omega
     have I4:¬w.heap.size+1=P:=by have:=B8.out;omega
     have I5:=(mr _ _).symm.trans H8;have I6:H.cell? ⟨w.heap.size+1,0,none⟩=some (.string ⟨#[]⟩):=jc 0 I5;have I7:H.cell? ⟨w.heap.size+1,1,none⟩=some (jV 0):=jc 1 I5;have I8:H.cell? ⟨w.heap.size+1,2,none⟩=some jS:=jc 2 I5;have I9:H.cell? ⟨w.heap.size+1,3,none⟩=some jS:=jc 3 I5;have G5:=ea I5 0;have G6:=ea I5 1;have G3:=ea I5 2;have J0:=ea I5 3;clear F9 G0 H8 I5 H9 I0
     go_upto_region 11 with fail
     go_region_held3(λw'=>w'.cell? (jA w.heap.size)=some (.string L)/\w'.cell? (jB w.heap.size 2)=some (.slice J i cp)/\w'.cell? (jA P)=some (.slice C9 nt D0)/\w'.cell? (jB P 1)=some (.slice D1 D2 cv))
      (first|exact⟨by with_reducible assumption,by with_reducible assumption,by with_reducible assumption,by with_reducible assumption⟩|exact⟨(gT _ _ _ _ _ _ _ _ (by omega)).trans H4,(gT _ _ _ _ _ _ _ _ (by omega)).trans H5,(gT _ _ _ _ _ _ _ _ I3).trans H6,(gT _ _ _ _ _ _ _ _ I3).trans H7⟩)
      (fail)
     all_goals
      go_wp2;refine bodyPost_ret (zy Tryz.results43 _ _ (w.heap.size+1) _ _ _ _ rfl I1) rfl ?_
      exact I2
end Go.Proofs.YtnfhpdbbfejioaaGreatDoor.Mid
