/- QL SI SJ SK SL SM SN SO SP -/
import Derived.Test.YtnfhpdbbfejioaaGreatDoorJ19
set_option linter.unusedVariables false
set_option linter.unusedSimpArgs false
set_option maxRecDepth 100000
set_option maxHeartbeats 16000000
namespace Go.Proofs.YtnfhpdbbfejioaaGreatDoor.Mid
open Go Go.RowKit
variable {w a:jW}{l fb:Nat}{f:jU}{fuel:Int}
theorem Io(w:jW):(Instr.typeAssert .nilIface 20 116 true).run Tryz.prog w= .ok (.tuple #[jV 0,.bool false]) w:=by kernel_rfl
theorem Ip(k:Int)(w:jW):(Instr.typeAssert (.iface 116 (jV k)) 20 116 true).run Tryz.prog w= .ok (.tuple #[jV k,.bool true]) w:=by kernel_rfl
theorem tC(a B6:Nat)(w:jW):CallsD Tryz.prog 49 #[ptr a,ptr B6] .returning w λe b w'=>e=jR (.tuple #[])/\b= .returning/\w'=w:=by
 have c:=Io;refine callsD_of_wpS Tryz.func49 rfl λd cs f=>?_;rw[Tryz.ntmps49,JM];apply wpS_seq;apply wpS_region;simp[wpOpsS,go_sem,recoverD,f,Exit.thenS,c]
 apply wpS_seq;apply wpS_region;simp[wpOpsS,go_sem,Exit.thenS]
 refine wpS_cond (t:=false) (by simp[Act.eval]) ?_;simp only[bI,if_false];refine wpS_of_wp (wp_skip ?_);cases d
 simp_all [bodyPostS,results,Tryz.results49,Exit.thenS]
theorem vW(a B6 P:Nat)(k:Int)(b:List PanicEntry)(p:jO)(l c:Nat)(w:jW)(h1:w.cell? (jA a)=some (ptr P))(h2:w.cell? (jB P 2)=some (jL p l c)){x y z:jU}(d:w.heap[B6]?=some (jC #[x,y,z] 29)):
  CallsD Tryz.prog 49 #[ptr a,ptr B6] (.panicking ({v:= .iface 116 (jV k),recovered:=false}::b)) w λe f w'=>e=jR (.tuple #[])/\f= .panicking ({v:= .iface 116 (jV k),recovered:=true}::b)/\w'=((w.setCell (jA B6) (jV k)).setCell (jB B6 1) (jV 0)).setCell (jB B6 2) (jL p l c):=by
 have g:=Ip;have h:=jc 0 d;have j:=jc 1 d;have m:=jc 2 d;have n:=ea d 0;have o:=ea d 1;have q:=ea d 2;refine callsD_of_wpS Tryz.func49 rfl λr cs s=>?_;rw[Tryz.ntmps49,JM];apply wpS_seq;apply wpS_region;simp[wpOpsS,go_sem,recoverD,s,Exit.thenS,g]
 apply wpS_seq;apply wpS_region;simp[wpOpsS,go_sem,Exit.thenS]
 refine wpS_cond (t:=true) (by simp[Act.eval]) ?_;simp only[if_true];refine wpS_of_wp ?_;go_wp2
 simp_all [bodyPostS,results,Tryz.results49,Exit.thenS]
theorem uw(d:Array Value)(w:jW)(g:Nat)(a b c:jU)(e:d.getD 6 undef=jP g)(f:w.heap[g]?=some (jC #[a,b,c] 29)):
  (results Tryz.f24 d).run Tryz.prog w= .ok (.agg #[a,b,c]) w:=
 results_cell_row (p:=6) (ty:=29) Tryz.results24 _ _ g 29 _ (0,0) _ e f Tryz.underlying29 rfl (by kernel_rfl)
theorem jd{B a e z n:Nat}{v:jU}{l:jE}(h:w.ownsRow B e z v n l)(b:a<=B):w.ownsRow a e z v n l:=by
 refine⟨h.1,?_⟩;rcases h.2 with c|⟨g,d,f,i,j,k⟩
 ·exact .inl c
 ·exact .inr ⟨g,d,f,i,aP b j,k⟩
theorem mq{out:List Int}{b:jU}{d e:Int}(f:az w a)(g:a.ownsRow w.heap.size 2 1 b out.length (fI out))(hk:∀k,b.ownBlock=some k->w.heap.size+1<=k):
  AK (d,e,out) w (jR (.agg #[jV d,jV e,b])) (((a.setCell (jA w.heap.size) (jV d)).setCell (jB w.heap.size 1) (jV e)).setCell (jB w.heap.size 2) b):=by
 obtain⟨p,c,rfl⟩:=eh g;refine⟨p,c,rfl,fX g (λi h=>?_),((f.setCell (p:=(jA w.heap.size)) (aD _) _).setCell (p:=(jB w.heap.size 1)) (aD _) _).setCell (p:=(jB w.heap.size 2)) (aD _) _⟩;have:=hk i h;rw[aG _ _ _ _ (by show i≠w.heap.size;omega),aG _ _ _ _ (by show i≠w.heap.size;omega),aG _ _ _ _ (by show i≠w.heap.size;omega)]
abbrev mx(a b:jW)(c:Nat)(L:List Mf):Mx:={w0:=b,P:=a.heap.size,fv:= .map (some c),wc:=a,fs:=iQ L}
structure R4 (w w2 W4:jW) (iv:jU) (fuel:Int) (fb fo mb M:Nat):Prop where
 bel:az w w2
 lt:w.heap.size<w2.heap.size
 z:W4.heap.size=w2.heap.size+3
 b2:az w2 W4
 k6:W4.heap[w.heap.size]?=some (jC #[jV 0,jV 0,jS] 29)
 kP:W4.heap[w2.heap.size]?=some (jC #[.map (some M),iv,jS,jV fuel,jV 0] 115)
 k7:W4.heap[w2.heap.size+1]?=some (jC #[ptr w2.heap.size] 111)
 k8:W4.heap[w2.heap.size+2]?=some (jC #[jQ (some (jB fb fo)),.map (some mb)] 120)
theorem SG{d w':jW}{k m:Nat}{inp:List Int}(h:R4 w a d f fuel fb k l m)(r:oW w f inp)(s: -9223372036854775808<=fuel/\fuel<=10000000)(t:az d w'):Sm d a.heap.size (.map (some m)) w' ⟨[],f,jS,⟨fuel,inp,[],[]⟩⟩ 0:=by
 have u:=h.z;refine⟨by omega,t.size,λb v _=>t.block b v,?_,?_,bj _ _ _ _,λi y=>(by cases y),rfl,λi b n y=>(by simp at y),λb t=>(by simp at t),(by simp),s,(by simp),by omega⟩
 ·rw[t.block _ (by omega)];exact h.kP
 ·obtain⟨q,c,e,A⟩:=r;refine⟨q,c,e,?_⟩;rcases A with A|⟨g,o,B,h1,h2,C⟩
  ·exact .inl A
  ·have D:=h.lt;exact .inr ⟨g,o,B,by omega,by omega,h2,λj x E=>by rw[h.b2.cell (p:=(jB g (o+j))) (by show g<_;omega),h.bel.cell (p:=(jB g (o+j))) h1];exact C j x E⟩
theorem gone{c e:jW}{g j:Nat}{m:Rs}{d:Nat}(h:R4 w a c f fuel fb g j l)(n:Sm c a.heap.size (.map (some l)) e m d){o:jW}{r:Rs}{E:Nat->Prop}(p:az c o)(q:Fz a.heap.size E o r e m):
  az w e/\e.heap[w.heap.size]?=some (jC #[jV 0,jV 0,jS] 29)/\e.heap[a.heap.size+1]?=some (jC #[ptr a.heap.size] 111)/\e.heap[a.heap.size+2]?=some (jC #[jQ (some (jB fb g)),.map (some j)] 120)/\e.cell? (jB a.heap.size 2)=some m.ov/\e.ownsRow w.heap.size 2 1 m.ov m.s.out.length (fI m.s.out)/\∀k,m.ov.ownBlock=some k->w.heap.size+1<=k:=by
 have t:=h.z;have u:=h.lt;refine⟨⟨q.os.trans (p.os.trans (h.b2.os.trans h.bel.os)),q.tape.trans (p.tape.trans (h.b2.tape.trans h.bel.tape)),q.output.trans (p.output.trans (h.b2.output.trans h.bel.output)),by have:=n.le;omega,λb p=>?_⟩,?_,?_,?_,jc 2 n.pb,jd n.out (by omega),λk hk=>?_⟩
 ·rw[n.kp b (by omega) (by omega),h.b2.block b (by omega)];exact h.bel.block b p
 ·rw[n.kp _ (by omega) (by omega)];exact h.k6
 ·rw[n.kp _ (by omega) (by omega)];exact h.k7
 ·rw[n.kp _ (by omega) (by omega)];exact h.k8
 ·have:=(n.out.lt k hk).1;omega
theorem Cu(w:jW)(cb:Nat)(q:jO)(c:Nat)(L:List Mf)(iv:jU)(inp:List Int)(fuel:Int)(g:Nat)(h:gN w cb q c L)(A9:AR w)(A8:zq w)(A3:oW w iv inp)(hf: -9223372036854775808<=fuel/\fuel<=10000000)(hg:fuel.toNat<g):
  aA 24 #[ptr cb,iv,jV fuel] w (AK (gO g L inp fuel) w):=by
 obtain⟨qi,ci,rfl,C4⟩:=id A3;obtain⟨M,C9⟩:=aB inp.length;rw[<-C9]at A3⊢;generalize hG:AK (gO g L inp fuel) w=G;have HG:Hid (AK (gO g L inp fuel) w=G):=hG;have HC:Hid (gN w cb q c L/\AR w/\zq w):=⟨h,A9,A8⟩;have D9:Hid (oW w (jL qi M ci) inp):=A3;have C1:Hid ((-9223372036854775808<=fuel/\fuel<=10000000)/\fuel.toNat<g):=⟨hf,hg⟩;obtain⟨V,Q⟩:=aB (w.alloc (jC #[jV 0,jV 0,jS] 29));have N:Hid (az w V):=by rw[Q];exact ip _ _
 have A4:Hid (V.heap[w.heap.size]?=some (jC #[jV 0,jV 0,jS] 29)/\V.heap.size=w.heap.size+1):=⟨by rw[Q];exact heap_alloc_last _ _,by rw[Q];simp⟩;have D3:Hid (aA 22 #[ptr cb] V (BF (gy L) V)):=rk V cb q c L (h.below N.out) (A9.below N.out) (A8.below N.out);clear h A9 A8 A3 C4 hf hg C9 hG
 go_enter_defers Tryz.func24,Tryz.ntmps24
 go_wp2_with(go_at_call 22;fail)
 rw[<-Q];clear Q;refine D3.out.mono ?_;rintro e w1 ⟨rfl,P⟩;have E1:Hid (az V w1):=P;have j:Hid (w1.heap[w.heap.size]?=some (jC #[jV 0,jV 0,jS] 29)/\w.heap.size+1<=w1.heap.size/\az w w1):=⟨by rw[P.block _ (by have:=A4.out.2;omega)];exact A4.out.1,by have:=P.size;have:=A4.out.2;omega,N.out.trans (P.mono N.out.size)⟩;clear P;cases O:gy L with
 |false=>
  have m0:=jc 0 j.out.1;have m1:=jc 1 j.out.1;have m2:=jc 2 j.out.1;have y0:=ea j.out.1 0;have y1:=ea j.out.1 1;have y2:=ea j.out.1 2;have A2:Hid (gO g L inp fuel=(9,0,[])):=by show _=_;unfold gO;rw[O];rfl
  clear O;go_wp2;refine⟨_,uw _ _ w.heap.size _ _ _ rfl (EL j.out.1),?_⟩
  rw[<-HG.out,A2.out];exact mq (out:=[]) j.out.2.2 (bj _ _ _ _) (λk hk=>by cases hk)
 |true=>
  have HR:Hid (TM L):=TN O;obtain⟨Fm,T,E0⟩:=HR.out.mn;have A2:Hid (gO g L inp fuel=(match fK (iQ L) g 0 Fm (List.replicate Fm.types.length (0,none)) ⟨fuel,inp,[],[]⟩ with| .error (w,out)=>(w,0,out)| .ok (z,s)=>(1,z,s.out))):=by show _=_;unfold gO;rw[if_pos O,T];rfl
  have A6:L≠[]:=λe=>by rw[e]at T;cases T
  obtain⟨gg,pp,rfl⟩:∃g p,q=some (jB g p):=by
   rcases HC.out.1.fn with h2|⟨g',p',e,h2⟩
   ·exact absurd h2 A6
   ·exact⟨g',p',e⟩
  have B4:Hid (aA 48 #[ptr cb] w1 (UJ L gg pp w1)):=wD w1 cb gg pp c L (HC.out.1.below j.out.2.2) HR.out.nd HR.out.le (λF hF=>(Rg (HR.out.rt F hF)).2.2.1);have D6:Hid (iQ L iC=some Fm):=T;clear O T E0 A6
  go_wp2_with(go_at_call 48;fail)
  refine B4.out.mono ?_;rintro e a ⟨f,m,rfl,x,D2,D4⟩;have A7:Hid (∀X:Mx,X.wc=a->X.fs=iQ L->X.fv= .map (some w1.heap.size)->ux X):=λX e1 e2 e3=>Ov (cb:=cb) (g:=gg) (p:=pp) (c:=c) HR.out (by rw[e1];exact(HC.out.1.below j.out.2.2).below x) e2 e3 (by rw[e1];exact D2) (by rw[e1];exact D4);have D5:Hid (az w a):=j.out.2.2.trans (x.mono j.out.2.2.size);have Z:Hid (a.heap[w.heap.size]?=some (jC #[jV 0,jV 0,jS] 29)/\w.heap.size+1<=a.heap.size):=⟨by rw[x.block _ (by have:=j.out.2.1;omega)];exact j.out.1,by have:=j.out.2.1;have:=x.size;omega⟩;obtain⟨W3,D⟩:=aB ((a.alloc (jC #[.map (some w1.heap.size),jL qi M ci,jS,jV fuel,jV 0] 115)).alloc (jC #[ptr a.heap.size] 111));have A1:az a W3:=by rw[D];exact(ip _ _).trans ((ip _ _).mono (by simp))
  obtain⟨fb,y,B,r,C3⟩:=(A7.out (mx a W3 w1.heap.size L) rfl rfl rfl).look iC Fm D6.out;have C5:(Instr.lookup 112 (.map (some w1.heap.size)) (jT ⟨#[109,97,105,110]⟩) false).run Tryz.prog W3= .ok (.agg #[jQ (some (jB fb y)),.map (some B)]) W3:=C3 W3 (λb hb=>A1.block b hb);have B8:eX a fb y Fm:=r.fn;have C2:W3.heap.size=a.heap.size+2:=by rw[D];simp
  have kP:W3.heap[a.heap.size]?=some (jC #[.map (some w1.heap.size),jL qi M ci,jS,jV fuel,jV 0] 115):=by rw[D,ed (by simp)];exact heap_alloc_last _ _
  have k7:W3.heap[a.heap.size+1]?=some (jC #[ptr a.heap.size] 111):=by
   rw[D];have:=heap_alloc_last (a.alloc (jC #[.map (some w1.heap.size),jL qi M ci,jS,jV fuel,jV 0] 115)) (jC #[ptr a.heap.size] 111);simpa using this
  obtain⟨n,A⟩:=aB (W3.alloc (jC #[jQ (some (jB fb y)),.map (some B)] 120));have H4:Hid (R4 w a n (jL qi M ci) fuel fb y B w1.heap.size):=by
   refine⟨D5.out,by have:=Z.out.2;omega,by rw[A];simp;omega,by rw[A];exact A1.trans ((ip _ _).mono (by omega)),?_,?_,?_,?_⟩
   ·have:=Z.out.2;rw[A,ed (by omega),A1.block _ (by omega)];exact Z.out.1
   ·rw[A,ed (by omega)];exact kP
   ·rw[A,ed (by omega)];exact k7
   ·rw[A,<-C2];exact heap_alloc_last _ _
  have HX:Hid (∀g',uy (mx a n w1.heap.size L) g'):=λg'=>Ho ⟨aD _,λb hb=>H4.out.b2.block b hb⟩ (A7.out _ rfl rfl rfl) g';have U:Hid (El (mx a n w1.heap.size L) Fm fb y B):=⟨r.fn,r.lab,r.ok,r.last⟩;have p7:W3.cell? ⟨a.heap.size+1,0,none⟩=some (ptr a.heap.size):=jc 0 k7;have pP:W3.cell? (jA a.heap.size)=some (.map (some w1.heap.size)):=jc 0 kP;have C8:Hid (n=((a.alloc (jC #[.map (some w1.heap.size),jL qi M ci,jS,jV fuel,jV 0] 115)).alloc (jC #[ptr a.heap.size] 111)).alloc (jC #[jQ (some (jB fb y)),.map (some B)] 120)):=by show _=_;rw[A,D]
  rw[D]at C5 p7 pP;clear x D2 D4 A1 r C3 B8 C2 kP k7 A D B4 A7 Z E1 D3 A4
  go_upto_region 6 with fail
  rw[<-C8.out];clear C5 p7 pP C8;have d7:n.cell? ⟨a.heap.size+1,0,none⟩=some (ptr a.heap.size):=jc 0 H4.out.k7;have d8:n.cell? ⟨a.heap.size+2,0,none⟩=some (jQ (some (jB fb y))):=jc 0 H4.out.k8;have d9:n.cell? ⟨a.heap.size+2,1,none⟩=some (.map (some B)):=jc 1 H4.out.k8;obtain⟨kt,B7⟩:∃kt,Fm.types.length=kt:=⟨_,rfl⟩;have B1:Hid (Fm.types.length=kt):=B7;have E2:Hid (∀W,az n W->aA 51 #[.agg #[jQ (some (jB fb y)),.map (some B)]] W (UH kt W)):=λW hb=>by
   obtain⟨vt,ht,qt,ct,rfl,_⟩:=U.out.fn.c2;have B5:=fE ht;have hz:=H4.out.z;have x:=H4.out.b2;have hc:W.cell? (jB fb (y+2))=some (jL qt Fm.types.length ct):=by
    rw[hb.cell (p:=(jB fb (y+2))) (by show fb<_;have:=x.size;exact aO B5 this),x.cell (p:=(jB fb (y+2))) B5];exact ht
   have:=uY (F:=Fm) (mv:= .map (some B)) W hc U.out.fn.i2.2.1 B rfl;rw[B1.out]at this;exact this
  have E3:Hid (∀W5 Y,az n W5->n.heap.size<=Y->W5.heap[Y]?=some (jC (zs kt).toArray 179)->aA 50 #[ptr a.heap.size,.agg #[jQ (some (jB fb y)),.map (some B)],jL (some (jA Y)) kt kt] W5 (SM (mx a n w1.heap.size L) W5 ⟨[],jL qi M ci,jS,⟨fuel,inp,[],[]⟩⟩ 0 Y (fK (iQ L) g 0 Fm (List.replicate Fm.types.length (0,none)) ⟨fuel,inp,[],[]⟩))):=λW5 Y hb D7 D8=>by
   have h1:=HX.out g Fm fb y B U.out W5 ⟨[],jL qi M ci,jS,⟨fuel,inp,[],[]⟩⟩ 0 Y (List.replicate kt (0,none)) (SG H4.out D9.out C1.out.1 hb) (En W5 Y [] kt D8) (by rw[B1.out];simp) D7 (by
    have:=Ka (iQ L) g 0 Fm (List.replicate kt (0,none)) ⟨fuel,inp,[],[]⟩ C1.out.2;exact this)
   rw[B1.out];simpa using h1
  have C0:Hid (∀W5 u H d Y,az n W5->Sm n a.heap.size (.map (some w1.heap.size)) u H d->Fz a.heap.size (λb=>b=Y) W5 ⟨[],jL qi M ci,jS,⟨fuel,inp,[],[]⟩⟩ u H->az w u/\u.heap[w.heap.size]?=some (jC #[jV 0,jV 0,jS] 29)/\u.heap[a.heap.size+1]?=some (jC #[ptr a.heap.size] 111)/\u.heap[a.heap.size+2]?=some (jC #[jQ (some (jB fb y)),.map (some B)] 120)/\u.cell? (jB a.heap.size 2)=some H.ov/\u.ownsRow w.heap.size 2 1 H.ov H.s.out.length (fI H.s.out)/\∀k,H.ov.ownBlock=some k->w.heap.size+1<=k):=λW5 u H d Y hb h1 h2=>gone H4.out h1 hb h2;have B2:Hid (n.heap.size=a.heap.size+3):=H4.out.z;clear B7
  go_cut [9] from 10 to 36 (λv9 wx=>∃z p l c,v9=jV z/\wx.cell? ⟨a.heap.size+1,0,none⟩=some (ptr a.heap.size)/\wx.cell? (jB a.heap.size 2)=some (jL p l c)/\Hid (wx.heap[w.heap.size]?=some (jC #[jV 0,jV 0,jS] 29)/\G (jR (.agg #[jV 1,jV z,jL p l c])) (((wx.setCell (jA w.heap.size) (jV 1)).setCell (jB w.heap.size 1) (jV z)).setCell (jB w.heap.size 2) (jL p l c))))
  case first=>
   refine Code.wp_mono (AY (B6:=w.heap.size) (ds:=[{target:=Target.fn (Fn.func 49) #[ptr (a.heap.size+1),ptr w.heap.size],args:=#[]}]) (W:=λc u=>Hid (∃k9 t p l c9,c={v:= .iface 116 (jV k9),recovered:=false}::t/\(∀z∈t,z.goexit=false)/\u.cell? ⟨a.heap.size+1,0,none⟩=some (ptr a.heap.size)/\u.cell? (jB a.heap.size 2)=some (jL p l c9)/\u.heap[w.heap.size]?=some (jC #[jV 0,jV 0,jS] 29)/\G (jR (.agg #[jV k9,jV 0,jL p l c9])) (((u.setCell (jA w.heap.size) (jV k9)).setCell (jB w.heap.size 1) (jV 0)).setCell (jB w.heap.size 2) (jL p l c9)))) ?pan) ?_
   case pan=>
    intro c a' u hd h6 hW;obtain⟨k9,t,p,l,c9,rfl,hold,g3,g4,g2,hg⟩:=hW.out;show Leaves Tryz.prog Tryz.f24 a'.tmps G a'.defers _ u;rw[hd];refine bP (f:=49) (args:=#[ptr (a.heap.size+1),ptr w.heap.size]) (by simp) (by simp[go_sem]) ?_
    refine(vW (a.heap.size+1) w.heap.size a.heap.size k9 t p l c9 u g3 g4 g2).mono ?_;rintro e u' E ⟨rfl,rfl,rfl⟩;show Leaves Tryz.prog Tryz.f24 a'.tmps G [] (settle _) _;rw[sF rfl hold];exact⟨_,uw _ _ w.heap.size _ _ _ h6 (EL g2),hg⟩
   refine wp_region_held_drew (S:=λw'=>w'.cell? ⟨a.heap.size+1,0,none⟩=some (ptr a.heap.size)/\w'.cell? ⟨a.heap.size+2,0,none⟩=some (jQ (some (jB fb y)))/\w'.cell? ⟨a.heap.size+2,1,none⟩=some (.map (some B))) (by kernel_rfl) ?_ (λC=>?_)
   ·exact⟨d7,d8,d9⟩
   refine iW 0 C ?_;simp only[Act.put,zS];refine iW 1 C ?_;simp only[Act.put,zS];refine iW 2 C ?_;simp only[Act.put,zS];refine wpAnyH_ready (rs:=[3]) (by kernel_rfl) (by simp) ?_;refine AllReadyH.cons (o:={dst:=some 29,op:=Op.call {callee:=Callee.value (Operand.func 51),args:=#[Operand.tmp 28],argTypes:=#[120]},type:=122,pos:= "run.go:17",after:=#[⟨2,.data⟩],guard:=none}) rfl (fun K hK=>?_) AllReadyH.nil
   go_simp
   refine(E2.out _ (aJ _ _).drew).mono ?_;rintro e u ⟨A5,rfl,rfl⟩;obtain⟨W5,A0⟩:=aB ((n.drew.alloc A5).alloc (jC (zs kt).toArray 179));have J:az n W5:=by rw[A0];exact((aJ n.heap.size n).drew.trans (ip n.drew A5)).trans ((ip _ _).mono (by simp))
   have C6:W5.heap[n.heap.size+1]?=some (jC (zs kt).toArray 179):=by
    rw[A0];have:=heap_alloc_last (n.drew.alloc A5) (jC (zs kt).toArray 179);simpa using this
   have B9:=E3.out W5 (n.heap.size+1) J (by omega) C6;have D0:W5.cell? ⟨a.heap.size+1,0,none⟩=some (ptr a.heap.size)∧W5.cell? ⟨a.heap.size+2,0,none⟩=some (jQ (some (jB fb y)))∧W5.cell? ⟨a.heap.size+2,1,none⟩=some (.map (some B)):=⟨by rw[J.cell (p:=⟨a.heap.size+1,0,none⟩) (by have:=B2.out;show a.heap.size+1<_;omega)];exact d7,by rw[J.cell (p:=⟨a.heap.size+2,0,none⟩) (by have:=B2.out;show a.heap.size+2<_;omega)];exact d8,by rw[J.cell (p:=⟨a.heap.size+2,1,none⟩) (by have:=B2.out;show a.heap.size+2<_;omega)];exact d9⟩;rw[←A0];have D1:Hid (az n W5):=J;clear A0 J C6;refine hK _ _ D0 (fun _=>?_);clear hK K;refine wpAnyH_ready (rs:=[4]) (by kernel_rfl) (by simp) ?_;refine AllReadyH.cons (o:={dst:=some 30,op:=Op.call {callee:=Callee.value (Operand.func 50),args:=#[Operand.tmp 26,Operand.tmp 27,Operand.tmp 29],argTypes:=#[111,120,122]},type:=2,pos:= "run.go:17",after:=#[⟨0,.data⟩,⟨1,.data⟩,⟨3,.data⟩,⟨3,.chain⟩],guard:=none}) rfl (fun K hK=>?_) AllReadyH.nil
   go_simp
   refine B9.mono ?_;rintro e E ⟨H,d',h',B0,⟨n9,rfl,hx,rfl⟩|⟨k9,hx,rfl⟩⟩
   rotate_left
   ·obtain⟨g1,g2,g3,g4,g5,g6,g7⟩:=C0.out W5 E H d' _ D1.out h' B0;obtain⟨p,c9,I⟩:=eh g6;refine⟨rfl,rfl,?_⟩;refine⟨k9,[],rfl,λz hz=>(by cases hz),jc 0 g3,p,H.s.out.length,c9,by rw[g5,I],g2,?_⟩;have hr:=A2.out;rw[hx]at hr;rw[<-HG.out,hr,<-I];exact mq g1 g6 g7
   ·obtain⟨g1,g2,g3,g4,g5,g6,g7⟩:=C0.out W5 E H _ _ D1.out h' B0;obtain⟨p,c9,I⟩:=eh g6;have HE:Hid (∃p l c,E.cell? ⟨a.heap.size+1,0,none⟩=some (ptr a.heap.size)/\E.cell? (jB a.heap.size 2)=some (jL p l c)/\Hid (E.heap[w.heap.size]?=some (jC #[jV 0,jV 0,jS] 29)/\G (jR (.agg #[jV 1,jV n9,jL p l c])) (((E.setCell (jA w.heap.size) (jV 1)).setCell (jB w.heap.size 1) (jV n9)).setCell (jB w.heap.size 2) (jL p l c)))):=by
     refine⟨p,H.s.out.length,c9,jc 0 g3,by rw[g5,I],g2,?_⟩;have hr:=A2.out;rw[hx]at hr;rw[<-HG.out,hr,<-I];exact mq g1 g6 g7
    have B3:E.cell? ⟨a.heap.size+1,0,none⟩=some (ptr a.heap.size)∧E.cell? ⟨a.heap.size+2,0,none⟩=some (jQ (some (jB fb y)))∧E.cell? ⟨a.heap.size+2,1,none⟩=some (.map (some B)):=⟨jc 0 g3,jc 0 g4,jc 1 g4⟩;refine hK _ _ B3 (fun _=>?_);clear hK K h' B0 hx g1 g2 g3 g4 g5 g6 g7 I;refine wpAnyH_ready (rs:=[5]) (by kernel_rfl) (by simp) ?_;refine AllReadyH.cons (o:={dst:=some 9,op:=Op.assign (Operand.tmp 30),type:=2,pos:= "run.go:17",after:=#[⟨4,.data⟩,⟨4,.chain⟩,⟨0,.phase⟩,⟨1,.phase⟩,⟨2,.phase⟩,⟨3,.phase⟩,⟨4,.phase⟩],guard:=none}) rfl (fun K hK=>?_) AllReadyH.nil
    go_simp
    refine hK _ _ B3 (λ_=>?_);clear hK K B3 D0;refine wpAnyH_done (by kernel_rfl) ?_ _;simp only[xy]
    go_wp2_with fail
    go_meet
    obtain⟨p,l,c,q1,q2,q3⟩:=HE.out;exact⟨n9,p,l,c,rfl,q1,q2,q3⟩
  case rest=>
   obtain⟨z,p,l,c8,rfl,q1,q2,HF⟩:=hcut;obtain⟨E,C7⟩:=aB wc;rw[<-C7]at q1 q2 HF⊢;clear C7;have r0:=jc 0 HF.out.1;have r1:=jc 1 HF.out.1;have r2:=jc 2 HF.out.1;have y0:=ea HF.out.1 0;have y1:=ea HF.out.1 1;have y2:=ea HF.out.1 2;clear d7 d8 d9;go_wp2;refine bP (f:=49) (args:=#[ptr (a.heap.size+1),ptr w.heap.size]) (by simp) (by simp[go_sem]) ?_
   refine(tC (a.heap.size+1) w.heap.size _).mono ?_;rintro e u' w7 ⟨rfl,rfl,rfl⟩;exact⟨_,uw _ _ w.heap.size _ _ _ rfl (EL HF.out.1),HF.out.2⟩
end Go.Proofs.YtnfhpdbbfejioaaGreatDoor.Mid
namespace Go.Proofs.YtnfhpdbbfejioaaGreatDoor.Mid.Sf
open Go Go.RowKit
section
variable (F : Lf) (S : Tr → Lm Unit) (a : Int) (nm : By) (ix v th el : Tr)
theorem BR:pg F S (st 1 a nm ix v th el)=lb (pW v) λk=>lb (h9 k) λp=>lb (lL F p v) λ_=>lJ nm p:=rfl
theorem BS:pg F S (st 2 a nm ix v th el)=lb (iH nm) λp=>lb (lL F p v) λ_=>lp ():=rfl
theorem BU:pg F S (st 3 a nm ix v th el)=lb (F.V ix) λi=>lb (F.V v) λx=>lb (iH nm) λp=>gX {fd with code:=12,a:=p,b:=i,c:=x}:=rfl
theorem yx:pg F S (st 4 a nm ix v th el)=lM F S v (mf th) (mf el):=rfl
theorem BV:pg F S (st 5 a nm ix v th el)=tA F S v (mf th):=rfl
theorem Ha:pg F S (st 6 a nm ix v th el)=lb (F.V v) λp=>gX {fd with code:=8,a:=p}:=rfl
theorem BW:pg F S (st 7 a nm ix v th el)=lb (F.V v) λp=>gX {fd with code:=13,a:=p}:=rfl
theorem BZ:pg F S (st 8 a nm ix v th el)=lb (F.V v) λ_=>lp ():=rfl
end
theorem wl{v:Tr}{k:Int}{w w':Wr}(h:pW v w=some (k,w')):w'=w:=by
 unfold pW at h;split at h
 ·exact(zB h).1
 ·cases h
theorem r_{l:List (By×Nat)}{x y:By}{p:Nat}(h:x≠y):((y,p)::l).lookup x=l.lookup x:=by
 rw[bU];have:(x==y)=false:=by simpa using h
 rw[this]
theorem yy{w0 w w':Wr}{x:By}{p:Nat}(h:nD w)(a:Pv w p)(b:∀y∈w.nm,y.2≠p)(c:lJ x p w=some ((),w')):nD w':=by
 obtain⟨e,d⟩:=sy c;refine⟨?_,λy f=>?_⟩
 ·rw[e];show((x,p)::w.nm|>.map (·.2)).Nodup;rw[bO,cj];refine⟨λg=>?_,h.nd⟩;obtain⟨y,f,i⟩:=aT.1 g;exact b y f i
 ·rw[e]at f;rcases aY.1 f with rfl|f
  ·exact d.pv a
  ·exact d.pv (h.pv y f)
section
variable {lk : By → Option Nm}
theorem MP{F:Lf}(c:iR F){S:Tr->Lm Unit}{f d:Nat}
  (j:∀(xs:List Tr)(s s':Nm×Nat)(w w':Wr),(∀x∈xs,RS f (d+1) x)->gw lk (chain xs) s= .ok s'->lX S xs w=some ((),w')->Ok w->nD w->SQ w w' s.1)
  {x g:Tr} {s s':Nm×Nat} {w w':Wr} (l:RS (f+1) d x) (m:gw lk (cc x g) s= .ok s') (h:pg F S x w=some ((),w')) (hk:Ok w) (n:nD w):SQ w w' s.1:=by
 rw[RS]at l;rcases l with⟨a,nm,v,-,-,rfl⟩|⟨a,nm,v,-,-,rfl⟩|⟨a,nm,i,v,-,-,-,rfl⟩|⟨a,v,u,el,-,-,z,A,rfl⟩|⟨a,v,u,-,-,z,rfl⟩|⟨a,v,-,rfl⟩|⟨a,v,-,rfl⟩|⟨a,b,nm,B,-,-,rfl⟩
 ·rw[BR]at h;obtain⟨k,w1,h1,h⟩:=d_ h;obtain⟨p,C,h2,h⟩:=d_ h;obtain⟨_,D,E,G⟩:=d_ h;obtain rfl:=wl h1;obtain⟨H,I,-,-,-,-,J⟩:=rW h2;obtain⟨-,K⟩:=nQ c E;obtain⟨L,M⟩:=sy G;obtain⟨t,N,-,O,-⟩:=sw m;have P:=n.ex (I.ex.trans K.ex) (K.nm.trans I.nm);refine⟨(I.ex.trans K.ex).trans M,λ_ _=>yy (w0:=w1) P (K.ex.pv (J hk)) (λy Q=>?_) G,λx k e=>?_⟩
  ·rw[K.nm,I.nm]at Q;have:=(n.pv y Q).1;omega
  ·have:x≠nm:=λT=>by
    rw[T,(oX O).1]at e;cases e
   rw[L];show((nm,p)::D.nm).lookup x=_;rw[r_ this,K.nm,I.nm]
 ·rw[BS]at h;obtain⟨p,w1,h1,h⟩:=d_ h;obtain⟨_,C,h2,h⟩:=d_ h;obtain⟨-,rfl⟩:=iy h;obtain⟨rfl,-⟩:=mM h1;obtain⟨-,K⟩:=nQ c h2;exact⟨K.ex,λ_ h=>h.ex K.ex K.nm,qT.of K.nm⟩
 ·rw[BU]at h;obtain⟨p,w1,h1,h⟩:=d_ h;obtain⟨q,C,h2,h⟩:=d_ h;obtain⟨r,D,E,G⟩:=d_ h;obtain⟨rfl,-⟩:=mM E;have K:=((c.V _ _ _ _ h1).1.trans (c.V _ _ _ _ h2).1).trans (fM G (by simp)).2.1;exact⟨K.ex,λ_ h=>h.ex K.ex K.nm,qT.of K.nm⟩
 ·rw[yx,eZ,eZ]at h;obtain⟨N,W,-,Y,Z,-⟩:=lF (by decide) m;unfold lM at h;obtain⟨o,w1,h1,h⟩:=d_ h;obtain⟨_,C,h2,h⟩:=d_ h;obtain⟨_,D,E,h⟩:=d_ h;have l:=(fY h1).1.trans (c.U _ _ _ _ h2).1;have u:=n.ex l.ex l.nm;have B:=l.ex.ok hk;have H:=j _ _ _ _ _ z Y E B u;have P:=H.nok B u;have J:=H.ex.ok B;split at h
  ·have L:=(fM h (by simp)).2.1;exact⟨(l.ex.trans H.ex).trans L.ex,λ_ _=>P.ex L.ex L.nm,((qT.of l.nm).trans H.nst).trans (qT.of L.nm)⟩
  ·obtain⟨e,Q,G,h⟩:=d_ h;obtain⟨_,I,O,h⟩:=d_ h;obtain⟨_,T,u,h⟩:=d_ h;obtain⟨_,B,B,A0⟩:=d_ h;have L:=((fY G).1.trans (fM O (by simp)).2.1).trans (fM u (by simp)).2.1;have A1:=P.ex L.ex L.nm;have P:=L.ex.ok J;have J:=j _ (s.1,N.2) _ _ _ A Z B P A1;have A:=J.nok P A1;have M:=(fM A0 (by simp)).2.1;exact⟨(((l.ex.trans H.ex).trans L.ex).trans J.ex).trans M.ex,λ_ _=>A.ex M.ex M.nm,((((qT.of l.nm).trans H.nst).trans (qT.of L.nm)).trans J.nst).trans (qT.of M.nm)⟩
 ·rw[BV,eZ]at h;obtain⟨N,W,-,Y,-,-⟩:=lF (by decide) m;unfold tA at h;obtain⟨o,w1,h1,h⟩:=d_ h;obtain⟨e,C,h2,h⟩:=d_ h;obtain⟨_,D,E,h⟩:=d_ h;obtain⟨_,Q,G,h⟩:=d_ h;obtain⟨_,I,O,h⟩:=d_ h;obtain⟨_,T,u,B⟩:=d_ h;have l:=(((fY h1).1.trans (fY h2).1).trans (fM E (by simp)).2.1).trans (c.U _ _ _ _ G).1;have Z:=n.ex l.ex l.nm;have m:=l.ex.ok hk;have C:=j _ _ _ _ _ z Y O m Z;have D:=C.nok m Z;have L:=(fM u (by simp)).2.1.trans (fM B (by simp)).2.1;exact⟨(l.ex.trans C.ex).trans L.ex,λ_ _=>D.ex L.ex L.nm,((qT.of l.nm).trans C.nst).trans (qT.of L.nm)⟩
 ·rw[Ha]at h;obtain⟨p,w1,h1,h2⟩:=d_ h;have K:=(c.V _ _ _ _ h1).1;obtain⟨-,E,H,-⟩:=pN h2;exact⟨K.ex.trans E,λ_ h=>h.ex (K.ex.trans E) (H.trans K.nm),qT.of (H.trans K.nm)⟩
 ·rw[BW]at h;obtain⟨p,w1,h1,h2⟩:=d_ h;have K:=(c.V _ _ _ _ h1).1.trans (fM h2 (by simp)).2.1;exact⟨K.ex,λ_ h=>h.ex K.ex K.nm,qT.of K.nm⟩
 ·rw[BZ]at h;obtain⟨p,w1,h1,h2⟩:=d_ h;obtain⟨-,rfl⟩:=iy h2;have K:=(c.V _ _ _ _ h1).1;exact⟨K.ex,λ_ h=>h.ex K.ex K.nm,qT.of K.nm⟩
theorem yz{f d:Nat}{x g:Tr}{s s':Nm×Nat}(c:RS f d x)(h:gw lk (cc x g) s= .ok s'):∃e l,gw lk g e= .ok s'/\e.1=s.1++l:=by
 cases f with
 |zero=>exact c.elim
 |succ f=>
  rw[RS]at c;rcases c with⟨a,nm,v,-,-,rfl⟩|⟨a,nm,v,-,-,rfl⟩|⟨a,nm,i,v,-,-,-,rfl⟩|⟨a,v,j,el,-,-,-,-,rfl⟩|⟨a,v,j,-,-,-,rfl⟩|⟨a,v,-,rfl⟩|⟨a,v,-,rfl⟩|⟨a,b,nm,m,-,-,rfl⟩
  ·obtain⟨t,e,-,h2,n⟩:=sw h;exact⟨e,[(nm,t)],n,(oX h2).2⟩
  ·obtain⟨k,-,-,n⟩:=uB h;exact⟨s,[],n,by simp⟩
  ·obtain⟨-,-,-,n⟩:=uC h;exact⟨s,[],n,by simp⟩
  all_goals
   obtain⟨e,o,-,-,-,n⟩:=lF (by decide) h;exact⟨_,[],n,by simp⟩
theorem tR(gl:Nat):∀(gs f d:Nat)(xs:List Tr)(s s':Nm×Nat)(w w':Wr),(∀x∈xs,RS f d x)->gw lk (chain xs) s= .ok s'->lX (DR (mm gl) gs) xs w=some ((),w')->Ok w->nD w->SQ w w' s.1
 |gs,f,d,[],s,s',w,w',a,b,h,hk,c=>by
  obtain⟨-,rfl⟩:=iy h;exact⟨Ex.refl _,λ_ h=>h,qT.refl _ _⟩
 |0,f,d,x::xs,s,s',w,w',a,b,h,hk,c=>by
  obtain⟨_,w1,h1,h⟩:=d_ h;cases h1
 |gs+1,0,d,x::xs,s,s',w,w',a,b,h,hk,c=>(a x (by simp)).elim
 |gs+1,f+1,d,x::xs,s,s',w,w',a,b,h,hk,c=>by
  obtain⟨_,w1,h1,h⟩:=d_ h;obtain⟨_,e,h2,h⟩:=d_ h;have hc:=b;have g:=MP (lk:=lk) (ru gl) (λxs s s' w w'=>tR gl gs f (d+1) xs s s' w w') (a x (by simp)) hc h1 hk c;obtain⟨i,l,j,k⟩:=yz (a x (by simp)) hc;obtain⟨m,-⟩:=iE h2;have n:=(g.nok hk c).ex m.ex m.nm;have o:=tR gl (gs+1) (f+1) d xs i s' e w' (λy p=>a y (by simp[p])) j h (m.ex.ok (g.ex.ok hk)) n;have q:=o.nst;rw[k]at q;exact⟨(g.ex.trans m.ex).trans o.ex,λ_ _=>o.nok (m.ex.ok (g.ex.ok hk)) n,(g.nst.trans (qT.of m.nm)).trans q.less⟩
end
section
variable {fsT : By → Option eR} {lk : By → Option Nm} {X : Cx}
theorem Rd.nm{ns:Nm}{nm a:List (By×Nat)}{ow:TO}{o:List Vl}(h:Rd X ns nm ow o)(b:∀x k,gP ns x=some k->a.lookup x=nm.lookup x):Rd X ns a ow o:=⟨h.len,λx k e=>by rw[b x k e];exact h.en x k e,h.zr⟩
theorem Rd.less{ns l:Nm}{nm:List (By×Nat)}{ow:TO}{o:List Vl}(h:Rd X (ns++l) nm ow o):Rd X ns nm ow o:=⟨h.len,λx k e=>h.en x k (vC e),h.zr⟩
theorem GP{ow:TO}{x y:By}{v:Vl}(h:y≠x):iP ((x,v)::ow) y=iP ow y:=by
 unfold iP;rw[bU];have:(y==x)=false:=by simpa using h
 rw[this]
theorem GQ{ow:TO}{x:By}{v:Vl}:iP ((x,v)::ow) x=v:=by
 unfold iP;rw[bU];simp
theorem Rd.upd{ns:Nm}{nm:List (By×Nat)}{ow:TO}{o o':List Vl}{x:By}{p:Nat}{v:Vl}(h:Rd X ns nm ow o)(a:nm.lookup x=some p)(b:Pv X.wf p)(c:∀y,nm.lookup y=some p->y=x)(d:o'.length=o.length)(f:pl o' (p:Int)=v)(g:∀q:Nat,(Pv X.wf q\/X.wf.no=some q)->q≠p->pl o' (q:Int)=pl o (q:Int)):Rd X ns nm ((x,v)::ow) o':=by
 refine⟨d.trans h.len,λy k e=>?_,λz e=>?_⟩
 ·obtain⟨q,h1,h2,i⟩:=h.en y k e;refine⟨q,h1,h2,?_⟩;by_cases j:y=x
  ·subst j;rw[a]at h1;injection h1 with h1;subst h1;rw[GQ,f]
  ·have l:q≠p:=λm=>j (c y (m▸h1));rw[GP j,g q (.inl h2) l,i]
 ·have n:z≠p:=λm=>b.2.2.2 (m▸e);rw[g z (.inr e) n];exact h.zr z e
theorem tQ{ns:Nm}{x y:By}{t k:Int}(h:gP (ns++[(x,t)]) y=some k):gP ns y=some k\/(gP ns y=none/\y=x/\k=t):=by
 unfold gP at h⊢;rw[List.find?_append]at h;cases a:ns.find? (λz=>z.1==y) with
 |some z=>rw[a]at h;exact .inl h
 |none=>
  rw[a]at h;simp only[Option.none_or,bX]at h;split at h
  ·rename_i e;simp at h e;exact .inr ⟨rfl,e.symm,h.symm⟩
  ·simp at h
theorem Rd.var{ns:Nm}{nm:List (By×Nat)}{ow:TO}{o o':List Vl}{x:By}{t:Int}{p:Nat}{v:Vl}(h:Rd X ns nm ow o)(a:gP ns x=none)(b:Pv X.wf p)(c:∀y∈nm,y.2≠p)(d:o'.length=o.length)(f:pl o' (p:Int)=v)(g:∀q:Nat,(Pv X.wf q\/X.wf.no=some q)->q≠p->pl o' (q:Int)=pl o (q:Int)):Rd X (ns++[(x,t)]) ((x,p)::nm) ((x,v)::ow) o':=by
 refine⟨d.trans h.len,λy k e=>?_,λz e=>?_⟩
 ·rcases tQ e with e|⟨-,rfl,rfl⟩
  ·obtain⟨q,h1,h2,i⟩:=h.en y k e;have j:y≠x:=λl=>by rw[l,a]at e;cases e
   have m:=c (y,q) (pL h1);exact⟨q,by rw[r_ j];exact h1,h2,by rw[GP j,g q (.inl h2) m,i]⟩
  ·exact⟨p,by rw[bU];simp,b,by rw[GQ,f]⟩
 ·have n:z≠p:=λl=>b.2.2.2 (l▸e);rw[g z (.inr e) n];exact h.zr z e
theorem MJ(c:jl X){a b q:Nat}(h:Pv X.wf q\/X.wf.no=some q):¬Fr X a b q:=by
 rcases h with h|h
 ·exact Gp h
 ·exact MF c h
theorem KU{w:Wr}(h:nD w){x y:By}{p:Nat}(a:w.nm.lookup x=some p)(b:w.nm.lookup y=some p):y=x:=by
 obtain⟨i,c⟩:=a7 (pL a);obtain⟨j,d⟩:=a7 (pL b);have e:i=j:=rc h.nd (x:=p) (by rw[bw,c];rfl) (by rw[bw,d];rfl);subst e;rw[c]at d;injection d with d;injection d with d _;exact d.symm
theorem yr(a:jl X){F:Lf}(b:iR F){g:Nat}{t:Tr}(c:SL fsT lk X F.L g t){ns:Nm}{ow:TO}{o:List Vl}{s:TS}{w w':Wr}{p q:Nat}{e:Int}(f:ck lk ns t []= .ok e)(h:lL F p t w=some (q,w'))(i:Ex w' X.wf)(j:Rd X ns w.nm ow o)(k:p<X.F.types.length):
  fq X (2*(w'.ss.length-w.ss.length)) w.ss.length o s (eM fsT g X.d ow t s) λv l m=>l=w'.ss.length/\m.length=o.length/\pl m (p:Int)=v/\∀q:Nat,¬Fr X w.u1 w.u2 q->q≠p->pl m (q:Int)=pl o (q:Int):=by
 unfold lL at h;obtain⟨st,w1,h1,h2⟩:=d_ h;obtain⟨n,u,x,y⟩:=b.L _ _ _ _ h1;obtain⟨rfl,z,A,B,C⟩:=Ba h2 y;obtain⟨D,E⟩:=c ns ow o s w w1 st e f h1 (z.ex.trans i) j;have G:=n.ex.sl;rcases C with⟨H,I,J⟩|⟨H,J⟩
 ·subst J;exact(E H).mono (aD _) λv l m ⟨K,x2,x3⟩=>⟨K,x2.len,by rw[<-I];exact x3,λq M _=>x2.pl M⟩
 ·have N:w'.ss=w1.ss++[{st with dst:=(q:Int)}]:=by rw[J]
  have O:w'.ss.length=w1.ss.length+1:=by rw[N];simp
  refine(D q (jq a i N)).mono (by omega) λv l m ⟨K,o1,x2,x3⟩=>?_;subst x3;exact⟨by omega,by rw[cP,x2.len],tD (by rw[x2.len,j.len];exact k) _,λr P Q=>by rw[Dm Q,x2.pl P]⟩
def Qs(X:Cx)(ns:Nm)(w':Wr)(r:Option Int×TO)(b:Nat)(c:List Vl):Prop:=
 (r.1=none->b=w'.ss.length/\Rd X ns w'.nm r.2 c)/\∀x,r.1=some x->∃st,X.F.steps[b]?=some st/\st.code=8/\(pl c st.a).1=x
theorem Qs.fall{ns:Nm}{w':Wr}{ow:TO}{a:Nat}{o':List Vl}(h1:a=w'.ss.length)(h2:Rd X ns w'.nm ow o'):Qs X ns w' (none,ow) a o':=⟨λ_=>⟨h1,h2⟩,λx e=>by cases e⟩
theorem fq.pay{α:Type}{c k:Nat}{o:List Vl}{s:TS}{f:TG α}{Q:α->Nat->List Vl->Prop}(hc:c<=10000)(h:∀b:TS,fq X c k o b (f b) Q):fq X 0 k o s (au ay (λ_=>f) s) Q:=by
 by_cases d:s.fuel=0
 ·refine fq.bad (w:=6) (out:=s.out) ?_ (.inl rfl);unfold au ay;rw[if_pos d]
 ·have e:au ay (λ_=>f) s=f {s with fuel:=s.fuel-1}:=by
   unfold au ay;rw[if_neg d]
  rw[e];have g:=h {s with fuel:=s.fuel-1};refine⟨λa b i=>?_,λw out i h1 h2=>?_⟩
  ·obtain⟨n,j,l,m,p,q⟩:=g.ok a b i;refine⟨n,j,l,?_,p,q⟩;have:n+10000*b.fuel<=c+10000*(s.fuel-1):=m;omega
  ·obtain⟨n,m,p⟩:=g.er w out i h1 h2;refine⟨n,?_,p⟩;have:n<=c+10000*(s.fuel-1):=m;omega
section
variable (g d : Nat) (ow : TO) (a : Int) (nm : By) (ix v th el x xs : Tr)
theorem GR:iq fsT (g+1) d ow ce=ar (none,ow):=by rw[qA]
theorem GS:iq fsT (g+1) d ow (cc x xs)=au ay λ_=>au (oh fsT g d ow x) λr=>if r.1.isSome then ar r else iq fsT g d r.2 xs:=by rw[qA]
theorem GU{c:Int}(hc:c=1\/c=2):oh fsT (g+1) d ow (st c a nm ix v th el)=au (eM fsT g d ow v) λx=>ar (none,(nm,x)::ow):=by
 rw[jZ];rcases hc with rfl|rfl<;>simp
theorem RR:oh fsT (g+1) d ow (st 3 a nm ix v th el)=au (eM fsT g d ow ix) λi=>au (eM fsT g d ow v) λn=>au (aq (iP ow nm).2 i.1 n.1) λ_=>ar (none,ow):=by rw[jZ];simp
theorem RT:oh fsT (g+1) d ow (st 4 a nm ix v th el)=au (eM fsT g d ow v) λx=>if x.1≠0 then iq fsT g d ow th else iq fsT g d ow el:=by rw[jZ];simp
theorem RU:oh fsT (g+1) d ow (st 5 a nm ix v th el)=rM fsT g d ow v th:=by rw[jZ];simp
theorem MK:oh fsT (g+1) d ow (st 6 a nm ix v th el)=au (eM fsT g d ow v) λx=>ar (some x.1,ow):=by rw[jZ];simp
theorem RV:oh fsT (g+1) d ow (st 7 a nm ix v th el)=au (eM fsT g d ow v) λx=>au (af x.1) λ_=>ar (none,ow):=by rw[jZ];simp
theorem RX:oh fsT (g+1) d ow (st 8 a nm ix v th el)=au (eM fsT g d ow v) λ_=>ar (none,ow):=by rw[jZ];simp
theorem rG(t:Tr)(s:TS):oh fsT 0 d ow t s= .error (99,s.out):=rfl
theorem GV(t:Tr)(s:TS):iq fsT 0 d ow t s= .error (99,s.out):=rfl
theorem RY(v t:Tr)(s:TS):rM fsT 0 d ow v t s= .error (99,s.out):=rfl
end
end
section
variable {fsT : By → Option eR} {lk : By → Option Nm} {X : Cx}
def CW(fsT:By->Option eR)(lk:By->Option Nm)(X:Cx)(S:Tr->Lm Unit)(f d a:Nat):Prop:=
 ∀(xs:List Tr)(g:Nat)(b c:Nm×Nat)(ow:TO)(o:List Vl)(s:TS)(w w':Wr),g<=a->(∀x∈xs,RS f d x)->gw lk (chain xs) b= .ok c->lX S xs w=some ((),w')->Ex w' X.wf->Ok w->nD w->Rd X b.1 w.nm ow o->
  fq X 0 w.ss.length o s (iq fsT g X.d ow (chain xs) s) (Qs X c.1 w')
theorem xP(b:jl X){F:Lf}{S:Tr->Lm Unit}{f d i:Nat}(j:X.F.steps.length<=4990)(m:CW fsT lk X S f d i){v:Tr}(n:∀g≤i,SU fsT lk X F.U g v){p:List Tr}(q:∀x∈p,RS f d x){t u:Nm×Nat}(y:ck lk t.1 v []= .ok 1)(A:gw lk (chain p) t= .ok u){l:Nm}(B:u.1=t.1++l)
  {w C D E w':Wr} {a e:Nat} (G:C.nm=w.nm) (H:F.U v e C=some ((),D)) (I:SX C D) (J:lX S p D=some ((),E)) (K:Ex D X.wf) (L:Ex E X.wf) (hk:Ok D) (M:nD D) (N:qT t.1 D E) (O:w'.nm=E.nm)
  {P:Nat} (Q:C.ss.length=P+1) {T:Ms} (V:X.F.steps[P]?=some T) (W:T.code=6) (Y:T.label=(a:Int))
  {Z:Ms} (P:X.F.steps[E.ss.length]?=some Z) (T:Z.code=4) (A0:Z.label=(a:Int)) {Z:Nat} {A1:Ms} (A2:X.F.steps[Z]?=some A1) (A3:A1.code=6) (A4:A1.label=(e:Int)) (A5:w'.ss.length=Z+1):
  ∀(g:Nat)(ow:TO)(o:List Vl)(s:TS),g<=i->Rd X t.1 w.nm ow o->fq X (2*(D.ss.length-C.ss.length)) C.ss.length o s (rM fsT g X.d ow v (chain p) s) (Qs X t.1 w')
 |0,ow,o,s,i,A6=>fq.bad (RY _ _ _ _ _) (.inr (by decide))
 |g+1,ow,o,s,i,A6=>by
  have i:=xP b j m n q y A B G H I J K L hk M N O Q V W Y P T A0 A2 A3 A4 A5 g;have j:D.ss.length<=X.F.steps.length:=by rw[<-b.ss];exact K.sl
  have j:∀x k,gP t.1 x=some k->E.nm.lookup x=w.nm.lookup x:=λx k e=>by rw[N x k e,I.nm,G]
  rw[uX];have N:Rd X t.1 C.nm ow o:=by rw[G];exact A6
  refine(fq.bind (n g (by omega) t.1 ow o s C D 1 e Z A1 y H K N A2 A3 A4) (e:=0) (R:=Qs X t.1 w') ?_).mono (by omega) λ_ _ _ h=>h;rintro x n o1 y ⟨H,rfl⟩-;have K:=A6.kp b H;by_cases Z:x.1=0
  ·rw[if_pos Z,if_pos Z];exact fq.pure (Qs.fall A5.symm (by rw[O];exact K.nm j))
  ·rw[if_neg Z,if_neg Z];have N:Rd X t.1 D.nm ow o1:=by rw[I.nm,G];exact K
   refine(fq.bind (m p g t u ow o1 y D E (by omega) q A J L hk M N) (e:=0) (R:=Qs X t.1 w') ?_).mono (aD _) λ_ _ _ h=>h;rintro⟨r,n⟩ H O Z ⟨m,p⟩ _;cases r with
   |some z=>exact fq.pure ⟨λh=>(by cases h),p⟩
   |none=>
    obtain⟨rfl,q⟩:=m rfl;rw[B]at q;have t:=q.less.nm λx k e=>(j x k e).symm;refine fq.pay (c:=1+2*(D.ss.length-C.ss.length)) (by omega) λs3=>?_;have u:To X 1 E.ss.length O s3 C.ss.length O s3:=by rw[Q];exact RM b P T V W (Y.trans A0.symm)
    exact fq.ahead u (i n O s3 (by omega) t)
theorem Kh(A:jl X){gl:Nat}{S:Tr->Lm Unit}{f d g0:Nat}(hT:X.F.steps.length<=4990)(hB:CW fsT lk X S f (d+1) g0)
  (hS:∀(xs:List Tr)(s s':Nm×Nat)(w w':Wr),(∀x∈xs,RS f (d+1) x)->gw lk (chain xs) s= .ok s'->lX S xs w=some ((),w')->Ok w->nD w->SQ w w' s.1)
  (hE:∀g≤g0,∀t e dd,RE e dd t->SV fsT lk X (mm gl).V g t/\SL fsT lk X (mm gl).L g t/\SU fsT lk X (mm gl).U g t)
  {x gg:Tr} {j B0:Nm×Nat} {ow:TO} {o:List Vl} {w w':Wr} (hx:RS (f+1) d x) (K:gw lk (cc x gg) j= .ok B0) (h:pg (mm gl) S x w=some ((),w')) (O:Ex w' X.wf) (hk:Ok w) (hn:nD w) (n:Rd X j.1 w.nm ow o):
  ∃Y l,gw lk gg Y= .ok B0/\Y.1=j.1++l/\∀g s,g<=g0->fq X (2*(w'.ss.length-w.ss.length)) w.ss.length o s (oh fsT g X.d ow x s) (Qs X Y.1 w'):=by
 have hF:=ru gl;rw[RS]at hx;rcases hx with⟨a,nm,v,-,⟨ev,Q⟩,rfl⟩|⟨a,nm,v,-,⟨ev,Q⟩,rfl⟩|⟨a,nm,i,v,-,⟨ei,hi⟩,⟨ev,Q⟩,rfl⟩|⟨a,v,th,el,-,⟨ev,Q⟩,M,A3,rfl⟩|⟨a,v,th,-,⟨ev,Q⟩,M,rfl⟩|⟨a,v,⟨ev,Q⟩,rfl⟩|⟨a,v,⟨ev,Q⟩,rfl⟩|⟨a,b,nm,ys,A5,⟨ev,B8⟩,rfl⟩
 ·obtain⟨t,Y,c1,c2,Z⟩:=sw K;obtain⟨c4,c5⟩:=oX c2;refine⟨Y,[(nm,t)],Z,c5,λg s hg=>?_⟩;cases g with
  |zero=>exact fq.bad (rG _ _ _ _) (.inr (by decide))
  |succ g=>
   rw[BR]at h;obtain⟨k,w1,h1,h⟩:=d_ h;obtain⟨p,w2,h2,h⟩:=d_ h;obtain⟨_,D,h3,h4⟩:=d_ h;obtain rfl:=wl h1;obtain⟨b1,b2,b3,b4,b5,-,b6⟩:=rW h2;obtain⟨-,C⟩:=nQ hF h3;obtain⟨d2,d3⟩:=sy h4;have T:=d3.trans O;have x2:=C.ex.trans T;have B5:=x2.pv (b6 hk);have A9:w'.ss=D.ss:=by rw[d2]
   have B7:p<X.F.types.length:=by rw[<-A.ts];exact B5.1
   have u:Rd X j.1 w2.nm ow o:=by rw[b2.nm];exact n
   have hi:=yr A hF (hE g (by omega) v _ _ Q).2.1 (s:=s) c1 h3 T u B7;rw[b5]at hi;rw[GU _ _ _ _ _ _ _ _ _ (.inl rfl),A9];refine(fq.bind hi (e:=0) (R:=Qs X Y.1 w') ?_).mono (by omega) λ_ _ _ h=>h;rintro y G o1 H ⟨rfl,P,y2,y3⟩-;refine fq.pure (Qs.fall (by rw[A9]) ?_);rw[c5,d2];have A5:D.nm=w1.nm:=by rw[C.nm,b2.nm]
   show Rd X (j.1++[(nm,t)]) ((nm,p)::D.nm) ((nm,y)::ow) o1;rw[A5];exact n.var c4 B5 (λy hy=>by have:=(hn.pv y hy).1;omega) P y2 λq hq A8=>y3 q (MJ A hq) A8
 ·obtain⟨k,c1,c2,Z⟩:=uB K;refine⟨j,[],Z,by simp,λg s hg=>?_⟩;cases g with
  |zero=>exact fq.bad (rG _ _ _ _) (.inr (by decide))
  |succ g=>
   rw[BS]at h;obtain⟨p,w1,h1,h⟩:=d_ h;obtain⟨_,w2,h2,h⟩:=d_ h;obtain⟨-,rfl⟩:=iy h;obtain⟨rfl,e1⟩:=mM h1;obtain⟨-,C⟩:=nQ hF h2;obtain⟨q,W,q2,q3⟩:=n.en nm k c1;have ep:p=q:=by rw[e1];unfold nG;rw[W];rfl
   subst ep;have hi:=yr A hF (hE g (by omega) v _ _ Q).2.1 (s:=s) c2 h2 O n (by rw[<-A.ts];exact q2.1);rw[GU _ _ _ _ _ _ _ _ _ (.inr rfl)];refine(fq.bind hi (e:=0) (R:=Qs X j.1 w') ?_).mono (by omega) λ_ _ _ h=>h;rintro y G o1 H ⟨rfl,P,y2,y3⟩-;refine fq.pure (Qs.fall rfl ?_);rw[C.nm];exact n.upd W q2 (λy hy=>KU hn W hy) P y2 λq hq A8=>y3 q (MJ A hq) A8
 ·obtain⟨c1,c2,Z,c4⟩:=uC K;refine⟨j,[],c4,by simp,λg s hg=>?_⟩;cases g with
  |zero=>exact fq.bad (rG _ _ _ _) (.inr (by decide))
  |succ g=>
   rw[BU]at h;obtain⟨p,w1,h1,h⟩:=d_ h;obtain⟨q,w2,h2,h⟩:=d_ h;obtain⟨r,D,h3,h4⟩:=d_ h;obtain⟨ew,e1⟩:=mM h3;subst ew;obtain⟨N,a2⟩:=hF.V _ _ _ _ h1;obtain⟨b1,b2⟩:=hF.V _ _ _ _ h2;obtain⟨d0,C,d2,d3⟩:=fM h4 (by simp);have la:=a2.le;have C2:=b2.le;have sa:=N.ex.sl;have sb:=b1.ex.sl;have T:=C.ex.trans O;have hl:w'.ss=D.ss++[{fd with code:=12,a:=(r:Int),b:=(p:Int),c:=(q:Int)}]:=by rw[d0]
   have B:w'.ss.length=D.ss.length+1:=by rw[hl];simp
   have I:=jq A O hl;rw[RR];refine(fq.bind ((hE g (by omega) i _ _ hi).1 j.1 ow o s w w1 p 1 c2 h1 (b1.ex.trans T) n) (e:=2*(D.ss.length-w1.ss.length)+1) (R:=Qs X j.1 w') ?_).mono (by omega) λ_ _ _ h=>h;rintro y G o1 H ⟨rfl,P,y2,y3⟩-;have E:=n.kp A P;rw[<-N.nm]at E;refine(fq.bind ((hE g (by omega) v _ _ Q).1 j.1 ow o1 H w1 D q 1 Z h2 T E) (e:=1) (R:=Qs X j.1 w') ?_).mono (by omega) λ_ _ _ h=>h;rintro z k2 o2 s2 ⟨rfl,z1,z2,z3⟩-;have u:=E.kp A z1;have v1:pl o2 (p:Int)=y:=by rw[z1.pl y3,y2]
   obtain⟨q',W,q2,q3⟩:=u.en nm 2 c1;have ep:r=q':=by rw[e1,b1.nm];unfold nG;rw[W];rfl
   subst ep;have hs:=OZ (o:=o2) (s:=s2) I rfl;dsimp only at hs;rw[q3,v1,z2]at hs;refine(fq.bind hs (e:=0) (R:=Qs X j.1 w') ?_).mono (aD _) λ_ _ _ h=>h;rintro _ k3 o3 s3 ⟨rfl,rfl⟩-;refine fq.pure (Qs.fall B.symm ?_);rw[C.nm,b1.nm];exact u
 ·obtain⟨H,s2,G,k2,k3,k4⟩:=lF (by decide) K;refine⟨(j.1,s2.2),[],k4,by simp,λg s hg=>?_⟩;obtain⟨l1,A0⟩:=lr f (d+1) th M _ _ k2;obtain⟨l2,C0⟩:=lr f (d+1) el A3 _ _ k3;cases g with
  |zero=>exact fq.bad (rG _ _ _ _) (.inr (by decide))
  |succ g=>
   rw[yx,eZ,eZ]at h;unfold lM at h;obtain⟨on,w1,h1,h⟩:=d_ h;obtain⟨_,w2,h2,h⟩:=d_ h;obtain⟨_,D,h3,hz⟩:=d_ h;obtain⟨N,a2,a3,-,-,a4⟩:=fY h1;obtain⟨b1,b2,b3⟩:=hF.U _ _ _ _ h2;have c0:=N.trans b1;have n2:=hn.ex c0.ex c0.nm;have o2:=c0.ex.ok hk;have Z:=hS _ _ _ _ _ M k2 h3 o2 n2;have n3:=Z.nok o2 n2;have o3:=Z.ex.ok o2;have sb:=b1.ex.sl;have C1:=Z.ex.sl;have E:Rd X j.1 w1.nm ow o:=by rw[N.nm];exact n
   have n1:w1.ss.length=w.ss.length:=by rw[a4]
   rw[RT];split at hz
   ·rename_i A2;subst A2;unfold jt at hz;obtain⟨d0,C,-,-⟩:=fM hz (by simp);have T:=C.ex.trans O;have hl:w'.ss=D.ss++[{fd with code:=6,label:=(on:Int)}]:=by rw[d0]
    have B:w'.ss.length=D.ss.length+1:=by rw[hl];simp
    have I:=jq A O hl;have hu:=(hE g (by omega) v _ _ Q).2.2 j.1 ow o s w1 w2 1 on D.ss.length _ G h2 (Z.ex.trans T) E I rfl rfl;rw[n1]at hu;refine(fq.bind hu (e:=1) (R:=Qs X j.1 w') ?_).mono (by omega) λ_ _ _ h=>h;rintro y G o1 H ⟨P,rfl⟩-;have u:Rd X j.1 w2.nm ow o1:=by rw[b1.nm,N.nm];exact n.kp A P
    by_cases hy:y.1=0
    ·rw[if_pos hy,if_neg (by simpa using hy)];show fq X 1 _ _ _ (iq fsT g X.d ow ce H) _;cases g with
     |zero=>exact fq.bad (GV _ _ _ _) (.inr (by decide))
     |succ g=>
      rw[GR];refine(fq.pure (Qs.fall B.symm ?_)).mono (by omega) λ_ _ _ h=>h;rw[C.nm];exact u.nm Z.nst
    ·rw[if_neg hy,if_pos (by simpa using hy)];refine((hB th g j _ ow o1 H w2 D (by omega) M k2 h3 T o2 n2 u).behind (m:=1) (Q':=Qs X j.1 w') ?_).mono (by omega) λ_ _ _ h=>h;rintro⟨r,A6⟩ B3 o2' B1 ⟨W,q2⟩;cases r with
     |some z=>exact⟨0,_,_,by omega,To.refl _ _ _ _,λh=>(by cases h),q2⟩
     |none=>
      obtain⟨rfl,J⟩:=W rfl;rw[A0]at J;exact⟨1,_,_,aD _,Dn I rfl,Qs.fall B.symm (by rw[C.nm];exact J.less)⟩
   ·rename_i A2;obtain⟨e,w4,h4,h⟩:=d_ hz;obtain⟨_,w5,h5,h⟩:=d_ h;obtain⟨_,w6,h6,h⟩:=d_ h;obtain⟨_,w7,h7,h8⟩:=d_ h;unfold jt at h6 h8;obtain⟨p1,-,-,-,-,p4⟩:=fY h4;obtain⟨q0,W,-,-⟩:=fM h5 (by simp);obtain⟨r0,r1,-,-⟩:=fM h6 (by simp);have C:=(p1.trans W).trans r1;have n6:=n3.ex C.ex C.nm;have o6:=C.ex.ok o3;have c7:=hS _ (j.1,H.2) _ _ _ A3 k3 h7 o6 n6;obtain⟨t0,t1,-,-⟩:=fM h8 (by simp);have x7:=t1.ex.trans O;have x6:=c7.ex.trans x7;have x5:=r1.ex.trans x6;have x4:=W.ex.trans x5;have T:=p1.ex.trans x4;have e5:w5.ss=D.ss++[{fd with code:=4,label:=(e:Int)}]:=by rw[q0,p4]
    have e6:w6.ss=w5.ss++[{fd with code:=6,label:=(on:Int)}]:=by rw[r0]
    have e8:w'.ss=w7.ss++[{fd with code:=6,label:=(e:Int)}]:=by rw[t0]
    have m5:w5.ss.length=D.ss.length+1:=by rw[e5];simp
    have m6:w6.ss.length=w5.ss.length+1:=by rw[e6];simp
    have m8:w'.ss.length=w7.ss.length+1:=by rw[e8];simp
    have m7:=c7.ex.sl;have s5:=jq A x5 e5;have s6:=jq A x6 e6;have s8:=jq A O e8;have hu:=(hE g (by omega) v _ _ Q).2.2 j.1 ow o s w1 w2 1 on w5.ss.length _ G h2 (Z.ex.trans T) E s6 rfl rfl;rw[n1]at hu;refine(fq.bind hu (e:=1) (R:=Qs X j.1 w') ?_).mono (by omega) λ_ _ _ h=>h;rintro y G o1 B4 ⟨P,rfl⟩-;have u:Rd X j.1 w2.nm ow o1:=by rw[b1.nm,N.nm];exact n.kp A P
    by_cases hy:y.1=0
    ·rw[if_pos hy,if_neg (by simpa using hy)];have B6:Rd X j.1 w6.nm ow o1:=by rw[C.nm];exact u.nm Z.nst
     have hb:=hB el g (j.1,H.2) _ ow o1 B4 w6 w7 (by omega) A3 k3 h7 x7 o6 n6 B6;rw[m6]at hb;refine(hb.behind (m:=1) (Q':=Qs X j.1 w') ?_).mono (by omega) λ_ _ _ h=>h;rintro⟨r,A6⟩ B3 o2' B1 ⟨A4,A7⟩;cases r with
     |some z=>exact⟨0,_,_,by omega,To.refl _ _ _ _,λh=>(by cases h),A7⟩
     |none=>
      obtain⟨rfl,A1⟩:=A4 rfl;rw[C0]at A1;exact⟨1,_,_,aD _,Dn s8 rfl,Qs.fall m8.symm (by rw[t1.nm];exact A1.less)⟩
    ·rw[if_neg hy,if_pos (by simpa using hy)];refine((hB th g j _ ow o1 B4 w2 D (by omega) M k2 h3 T o2 n2 u).behind (m:=1) (Q':=Qs X j.1 w') ?_).mono (by omega) λ_ _ _ h=>h;rintro⟨r,A6⟩ B3 o2' B1 ⟨A4,A7⟩;cases r with
     |some z=>exact⟨0,_,_,by omega,To.refl _ _ _ _,λh=>(by cases h),A7⟩
     |none=>
      obtain⟨rfl,J⟩:=A4 rfl;rw[A0]at J;have B2:Rd X j.1 w'.nm A6 o2':=by
       rw[t1.nm];refine Rd.nm (nm:=w6.nm) ?_ c7.nst;rw[C.nm];exact J.less
      exact⟨1,_,_,aD _,RM A s5 rfl s8 rfl rfl,Qs.fall m8.symm B2⟩
 ·obtain⟨H,s2,G,k2,-,k4⟩:=lF (by decide) K;have e2:(j.1,s2.2)=(j.1,s2.2):=rfl;refine⟨(j.1,s2.2),[],k4,by simp,λg s hg=>?_⟩;obtain⟨l1,A0⟩:=lr f (d+1) th M _ _ k2;cases g with
  |zero=>exact fq.bad (rG _ _ _ _) (.inr (by decide))
  |succ g=>
   rw[BV,eZ]at h;unfold tA at h;obtain⟨a',w1,h1,h⟩:=d_ h;obtain⟨e,w2,h2,h⟩:=d_ h;obtain⟨_,D,h3,h⟩:=d_ h;obtain⟨_,w4,h4,h⟩:=d_ h;obtain⟨_,w5,h5,h⟩:=d_ h;obtain⟨_,w6,h6,h7⟩:=d_ h;unfold jt at h3 h7;obtain⟨N,-,-,-,-,a4⟩:=fY h1;obtain⟨b1,-,-,-,-,b4⟩:=fY h2;obtain⟨p0,p1,-,-⟩:=fM h3 (by simp);obtain⟨u1,-,-⟩:=hF.U _ _ _ _ h4;have c0:=((N.trans b1).trans p1).trans u1;have n4:=hn.ex c0.ex c0.nm;have o4:=c0.ex.ok hk;have c5:=hS _ _ _ _ _ M k2 h5 o4 n4;obtain⟨q0,W,-,-⟩:=fM h6 (by simp);obtain⟨r0,r1,-,-⟩:=fM h7 (by simp);have x6:=r1.ex.trans O;have x5:=W.ex.trans x6;have x4:=c5.ex.trans x5;have T:=u1.ex.trans x4;have e3:D.ss=w.ss++[{fd with code:=6,label:=(a':Int)}]:=by rw[p0,b4,a4]
   have e6:w6.ss=w5.ss++[{fd with code:=4,label:=(a':Int)}]:=by rw[q0]
   have e7:w'.ss=w6.ss++[{fd with code:=6,label:=(e:Int)}]:=by rw[r0]
   have m3:D.ss.length=w.ss.length+1:=by rw[e3];simp
   have m6:w6.ss.length=w5.ss.length+1:=by rw[e6];simp
   have m7:w'.ss.length=w6.ss.length+1:=by rw[e7];simp
   have m4:=u1.ex.sl;have m5:=c5.ex.sl;have s3:=jq A T e3;have s6:=jq A x6 e6;have s7:=jq A O e7;have B9:D.nm=w.nm:=by rw[p1.nm,b1.nm,N.nm]
   rw[RU];have hl:=xP A hT hB (λg hg=>(hE g hg v _ _ Q).2.2) M G k2 A0 (w:=w) (w':=w') B9 h4 u1 h5 x4 x5 o4 n4 c5.nst (by rw[r1.nm,W.nm]) m3 s3 rfl rfl s6 rfl rfl s7 rfl rfl m7 g ow o s (by omega) n;have t1:To X 1 w.ss.length o s D.ss.length o s:=by rw[m3];exact Dn s3 rfl
   exact(fq.ahead t1 hl).mono (by omega) λ_ _ _ h=>h
 ·obtain⟨H,s2,G,k2,-,k4⟩:=lF (by decide) K;refine⟨(j.1,s2.2),[],k4,by simp,λg s hg=>?_⟩;cases g with
  |zero=>exact fq.bad (rG _ _ _ _) (.inr (by decide))
  |succ g=>
   rw[Ha]at h;obtain⟨p,w1,h1,h2⟩:=d_ h;obtain⟨N,a2⟩:=hF.V _ _ _ _ h1;obtain⟨d0,C,-,-,-⟩:=pN h2;have sa:=N.ex.sl;have hl:w'.ss=w1.ss++[{fd with code:=8,a:=(p:Int)}]:=by rw[d0]
   have I:=jq A O hl;have B:w'.ss.length=w1.ss.length+1:=by rw[hl];simp
   rw[MK];refine(fq.bind ((hE g (by omega) v _ _ Q).1 j.1 ow o s w w1 p 1 G h1 (C.trans O) n) (e:=0) (R:=Qs X j.1 w') ?_).mono (by omega) λ_ _ _ h=>h;rintro y G o1 H ⟨rfl,P,y2,y3⟩-;refine fq.pure ⟨λh=>(by cases h),λx e=>?_⟩;injection e with e;exact⟨_,I,rfl,by dsimp only;rw[y2,e]⟩
 ·obtain⟨H,s2,G,k2,-,k4⟩:=lF (by decide) K;refine⟨(j.1,s2.2),[],k4,by simp,λg s hg=>?_⟩;cases g with
  |zero=>exact fq.bad (rG _ _ _ _) (.inr (by decide))
  |succ g=>
   rw[BW]at h;obtain⟨p,w1,h1,h2⟩:=d_ h;obtain⟨N,a2⟩:=hF.V _ _ _ _ h1;obtain⟨d0,C,-,-⟩:=fM h2 (by simp);have sa:=N.ex.sl;have hl:w'.ss=w1.ss++[{fd with code:=13,a:=(p:Int)}]:=by rw[d0]
   have I:=jq A O hl;have B:w'.ss.length=w1.ss.length+1:=by rw[hl];simp
   rw[RV];refine(fq.bind ((hE g (by omega) v _ _ Q).1 j.1 ow o s w w1 p 1 G h1 (C.ex.trans O) n) (e:=1) (R:=Qs X j.1 w') ?_).mono (by omega) λ_ _ _ h=>h;rintro y G o1 H ⟨rfl,P,y2,y3⟩-;have hs:=OY (o:=o1) (s:=H) I rfl;dsimp only at hs;rw[y2]at hs;refine(fq.bind hs (e:=0) (R:=Qs X j.1 w') ?_).mono (aD _) λ_ _ _ h=>h;rintro _ k3 o3 s3 ⟨rfl,rfl⟩-;refine fq.pure (Qs.fall B.symm ?_);rw[C.nm,N.nm];exact n.kp A P
 ·obtain⟨H,s2,G,k2,-,k4⟩:=lF (by decide) K;refine⟨(j.1,s2.2),[],k4,by simp,λg s hg=>?_⟩;cases g with
  |zero=>exact fq.bad (rG _ _ _ _) (.inr (by decide))
  |succ g=>
   rw[BZ]at h;obtain⟨p,w1,h1,h2⟩:=d_ h;obtain⟨-,rfl⟩:=iy h2;obtain⟨N,a2⟩:=hF.V _ _ _ _ h1;have hR:RE (ev+1) 0 (nd 5 b 0 nm [] .nil .nil (chain ys)):=by
    rw[RE];exact⟨by omega,.inr (.inr (.inr (.inr (.inl ⟨b,nm,ys,A5,B8,rfl⟩))))⟩
   rw[RX];refine(fq.bind ((hE g (by omega) _ _ _ hR).1 j.1 ow o s w w' p 1 G h1 O n) (e:=0) (R:=Qs X j.1 w') ?_).mono (by omega) λ_ _ _ h=>h;rintro y G o1 H ⟨rfl,P,y2,y3⟩-;refine fq.pure (Qs.fall rfl ?_);rw[N.nm];exact n.kp A P
theorem vQ(a:jl X){gl b:Nat}(i:X.F.steps.length<=4990)
  (j:∀g≤b,∀t e k,RE e k t->SV fsT lk X (mm gl).V g t/\SL fsT lk X (mm gl).L g t/\SU fsT lk X (mm gl).U g t):∀(gs f d:Nat),CW fsT lk X (DR (mm gl) gs) f d b
 |gs,f,d,[],g,m,n,ow,o,s,w,w',p,q,u,h,v,hk,A,B=>by
  obtain⟨-,rfl⟩:=iy h;obtain rfl:=oV u;show fq X 0 _ _ _ (iq fsT g X.d ow ce s) _;cases g with
  |zero=>exact fq.bad (GV _ _ _ _) (.inr (by decide))
  |succ g=>
   rw[GR];exact fq.pure (Qs.fall rfl B)
 |0,f,d,x::xs,g,m,n,ow,o,s,w,w',p,q,u,h,v,hk,A,B=>by
  obtain⟨_,w1,h1,h⟩:=d_ h;cases h1
 |gs+1,0,d,x::xs,g,m,n,ow,o,s,w,w',p,q,u,h,v,hk,A,B=>(q x (by simp)).elim
 |gs+1,f+1,d,x::xs,g,m,n,ow,o,s,w,w',p,q,u,h,v,hk,A,B=>by
  have C:=u;show fq X 0 _ _ _ (iq fsT g X.d ow (cc x (chain xs)) s) _;cases g with
  |zero=>exact fq.bad (GV _ _ _ _) (.inr (by decide))
  |succ g=>
   obtain⟨_,w1,h1,h⟩:=d_ h;obtain⟨_,D,h2,h⟩:=d_ h;have E:=MP (lk:=lk) (ru gl) (λxs s s' w w'=>tR gl gs f (d+1) xs s s' w w') (q x (by simp)) C h1 hk A;obtain⟨G,H⟩:=iE h2;have I:=(E.nok hk A).ex G.ex G.nm;have J:=G.ex.ok (E.ex.ok hk);have K:∀y∈xs,RS (f+1) d y:=λy M=>q y (by simp[M]);obtain⟨N,l,O,P,Q⟩:∃N l,gw lk (chain xs) N= .ok n/\N.1=m.1++l/\∀g s,g<=b->Ex w1 X.wf->fq X (2*(w1.ss.length-w.ss.length)) w.ss.length o s (oh fsT g X.d ow x s) (Qs X N.1 w1):=by
    by_cases S:Ex w1 X.wf
    ·obtain⟨N,l,O,P,Q⟩:=Kh a i (vQ a i j gs f (d+1)) (λxs s s' w w'=>tR gl gs f (d+1) xs s s' w w') j (q x (by simp)) C h1 S hk A B;exact⟨N,l,O,P,λg s p _=>Q g s p⟩
    ·obtain⟨N,l,O,P⟩:=yz (q x (by simp)) C;exact⟨N,l,O,P,λg s _ h=>absurd h S⟩
   have T:=tR gl (gs+1) (f+1) d xs N n D w' K O h J I;have W:=T.ex.trans v;have Y:=G.ex.trans W;have Z:D.ss=w1.ss:=by rw[H]
   have k:w1.ss.length<=X.F.steps.length:=by rw[<-a.ss];exact Y.sl
   rw[GS];refine fq.pay (c:=2*(w1.ss.length-w.ss.length)) (by omega) λu=>?_;refine(fq.bind (Q g u (by omega) Y) (e:=0) (R:=Qs X n.1 w') ?_).mono (aD _) λ_ _ _ h=>h;rintro⟨r,E⟩ M b m ⟨p,q⟩-;cases r with
   |some z=>exact fq.pure ⟨λh=>(by cases h),q⟩
   |none=>
    obtain⟨rfl,A⟩:=p rfl;have B:=vQ a i j (gs+1) (f+1) d xs g N n E b m D w' (by omega) K O h v J I (by rw[G.nm];exact A);rw[Z]at B;exact B
end
section
variable {fsT : By → Option eR} {lk : By → Option Nm}
theorem wq{a:Int}{X:Cx}:∀(b:Nm)(s s':Nm×Nat)(w w':Wr)(c:List Vl)(ow:TO)(o:List Vl),ly a b s= .ok s'->ku b w=some ((),w')->Ok w->nD w->c.length=b.length->(∀i v,c[i]?=some v->o[w.ts.length+i]?=some v)->
  Ex w w'/\nD w'/\w'.ss=w.ss/\w'.ts.length=w.ts.length+b.length/\w'.no=w.no/\(Ex w' X.wf->Rd X s.1 w.nm ow o->Rd X s'.1 w'.nm (((b.map (·.1)).zip c).reverse++ow) o)
 |[],s,s',w,w',c,ow,o,d,h,hk,e,f,g=>by
  obtain⟨-,rfl⟩:=iy h;rw[ly]at d;injection d with d;subst d;exact⟨Ex.refl _,e,rfl,rfl,rfl,λ_ j=>by simpa using j⟩
 |p::b,s,s',w,w',[],ow,o,d,h,hk,e,f,g=>by simp at f
 |p::b,s,s',w,w',v::c,ow,o,d,h,hk,e,f,g=>by
  rw[ly]at d;obtain⟨l,h1,h2⟩:=eE d;obtain⟨m,n⟩:=oX h1;obtain⟨k,w1,r,h⟩:=d_ h;obtain⟨_,u,z,A⟩:=d_ h;obtain⟨B,C,D,E,F,G,H⟩:=rW r;obtain⟨I,J⟩:=sy z;have K:w1.no=w.no:=by
   unfold h9 at r;split at r
   ·injection r with r;injection r with _ r;rw[<-r]
   ·cases r
  have L:=e.ex C.ex C.nm;have M:∀y∈w.nm,y.2≠k:=λy N=>by have:=(e.pv y N).1;omega
  have O:=yy (w0:=w) L (H hk) (λy N=>M y (by rw[<-C.nm];exact N)) z;have P:u.ts.length=w.ts.length+1:=by rw[I];show w1.ts.length=_;rw[G];simp
  obtain⟨Q,S,T,U,V,W⟩:=wq (X:=X) b l s' u w' c ((p.1,v)::ow) o h2 A (J.ok (C.ex.ok hk)) O (by simpa using f) (λi x Y=>by
   have:=g (i+1) x (by simpa using Y);rw[P];rw[show w.ts.length+1+i=w.ts.length+(i+1) by omega];exact this)
  refine⟨(C.ex.trans J).trans Q,S,?_,?_,?_,λZ j=>?_⟩
  ·rw[T,I];exact F
  ·rw[U,P];simp;omega
  ·rw[V,I];exact K
  ·have d:=(Q.trans Z).pv (J.pv (H hk));have D:pl o (k:Int)=v:=by
    rw[pn,B];have:=g 0 v rfl;rw[cn]at this;rw[this];rfl
   have E:Rd X l.1 u.nm ((p.1,v)::ow) o:=by
    rw[n,I];show Rd X (s.1++[p]) ((p.1,k)::w1.nm) _ o;rw[C.nm];exact j.var (t:=p.2) m d M rfl D (λq _ _=>rfl)
   have:=W Z E;rw[bO,List.zip_cons_cons,List.reverse_cons,dn];exact this
theorem PJ{F:Lf}(g:iR F){S:Tr->Lm Unit}{f d:Nat}{x:Tr}{w w':Wr}(j:RS (f+1) d x)(h:pg F S x w=some ((),w')):SR w w'\/∃a v,x=st 6 a [] .nil v ce ce:=by
 rw[RS]at j;rcases j with⟨a,nm,v,-,-,rfl⟩|⟨a,nm,v,-,-,rfl⟩|⟨a,nm,i,v,-,-,-,rfl⟩|⟨a,v,m,el,-,-,n,s,rfl⟩|⟨a,v,m,-,-,n,rfl⟩|⟨a,v,-,rfl⟩|⟨a,v,-,rfl⟩|⟨a,b,nm,t,-,-,rfl⟩
 ·rw[BR]at h;obtain⟨k,w1,h1,h⟩:=d_ h;obtain⟨p,u,h2,h⟩:=d_ h;obtain⟨_,y,z,A⟩:=d_ h;obtain rfl:=wl h1;have c:=(rW h2).2.1.trans (nQ g z).2;obtain⟨B,-⟩:=sy A;have e:w'.ss=y.ss:=by rw[B]
  rcases zx c with h|h
  ·exact .inl (.inl (e.trans h))
  ·exact .inl (.inr (by rw[e];exact h))
 ·rw[BS]at h;obtain⟨p,w1,h1,h⟩:=d_ h;obtain⟨_,u,h2,h⟩:=d_ h;obtain⟨-,rfl⟩:=iy h;obtain⟨rfl,-⟩:=mM h1;exact .inl (zx (nQ g h2).2)
 ·rw[BU]at h;obtain⟨p,w1,h1,h⟩:=d_ h;obtain⟨q,u,h2,h⟩:=d_ h;obtain⟨r,y,z,A⟩:=d_ h;exact .inl (mt (l:=y.ss) (by rw[(pN A).1]) (by simp))
 ·rw[yx]at h;unfold lM at h;obtain⟨o,w1,h1,h⟩:=d_ h;obtain⟨_,u,h2,h⟩:=d_ h;obtain⟨_,y,z,C⟩:=d_ h;split at C
  ·unfold jt at C;exact .inl (mt (l:=y.ss) (by rw[(pN C).1]) (by simp))
  ·obtain⟨e,D,A,h⟩:=d_ C;obtain⟨_,E,G,h⟩:=d_ h;obtain⟨_,H,I,h⟩:=d_ h;obtain⟨_,J,K,L⟩:=d_ h;unfold jt at L;exact .inl (mt (l:=J.ss) (by rw[(pN L).1]) (by simp))
 ·rw[BV]at h;unfold tA at h;obtain⟨o,w1,h1,h⟩:=d_ h;obtain⟨e,u,h2,h⟩:=d_ h;obtain⟨_,y,z,h⟩:=d_ h;obtain⟨_,D,A,h⟩:=d_ h;obtain⟨_,E,G,h⟩:=d_ h;obtain⟨_,H,I,K⟩:=d_ h;unfold jt at K;exact .inl (mt (l:=H.ss) (by rw[(pN K).1]) (by simp))
 ·exact .inr ⟨a,v,rfl⟩
 ·rw[BW]at h;obtain⟨p,w1,h1,h2⟩:=d_ h;exact .inl (mt (l:=w1.ss) (by rw[(pN h2).1]) (by simp))
 ·rw[BZ]at h;obtain⟨p,w1,h1,h2⟩:=d_ h;obtain⟨-,rfl⟩:=iy h2;exact .inl (zx (g.V _ _ _ _ h1).1)
theorem Hk{gl:Nat}:∀(gs f d:Nat)(xs:List Tr)(g b:Nat)(ow c:TO)(s e:TS)(w w':Wr),(∀x∈xs,RS f d x)->iq fsT g b ow (chain xs) s= .ok ((none,c),e)->lX (DR (mm gl) gs) xs w=some ((),w')->SR w w'
 |gs,f,d,[],g,b,ow,c,s,e,w,w',i,j,h=>by
  obtain⟨-,rfl⟩:=iy h;exact .inl rfl
 |0,f,d,x::xs,g,b,ow,c,s,e,w,w',i,j,h=>by
  obtain⟨_,w1,h1,h⟩:=d_ h;cases h1
 |gs+1,0,d,x::xs,g,b,ow,c,s,e,w,w',i,j,h=>(i x (by simp)).elim
 |gs+1,f+1,d,x::xs,0,b,ow,c,s,e,w,w',i,j,h=>by cases j
 |gs+1,f+1,d,x::xs,g+1,b,ow,c,s,e,w,w',i,j,h=>by
  obtain⟨_,w1,h1,h⟩:=d_ h;obtain⟨_,k,h2,h⟩:=d_ h;have l:iq fsT (g+1) b ow (cc x (chain xs)) s= .ok ((none,c),e):=j;rw[GS]at l;obtain⟨_,m,-,l⟩:=mN l;obtain⟨⟨r,n⟩,o,p,l⟩:=mN l;have q:k.ss=w1.ss:=by rw[(iE h2).2]
  cases r with
  |some z=>
   have:(none,c)=((some z,n):Option Int×TO):=by
    simp only[Option.isSome_some,if_true]at l;injection l with l;injection l with l _;exact l.symm
   cases this
  |none=>
   have t:iq fsT g b n (chain xs) o= .ok ((none,c),e):=by simpa using l
   have u:=Hk (gs+1) (f+1) d xs g b n c o e k w' (λy A=>i y (by simp[A])) t h;rcases u with u|u
   ·rcases PJ (ru gl) (i x (by simp)) h1 with B|⟨a,v,rfl⟩
    ·rcases B with B|B
     ·exact .inl (by rw[u,q,B])
     ·exact .inr (by rw[u,q];exact B)
    ·cases g with
     |zero=>cases p
     |succ g=>
      rw[MK]at p;obtain⟨y,C,-,p⟩:=mN p;injection p with p;injection p with p _;injection p with p _;cases p
   ·exact .inr u
theorem wu:Ok uh:=⟨dp,dp,λp a=>by simp[uh]at a,λp a=>by simp[uh]at a,λz b=>by cases b⟩
theorem Cg:nD uh:=⟨dp,λx a=>by simp[uh]at a⟩
theorem Sh{g:Nm}{xs:List Tr}{d:Wr}(h:AB g (chain xs)=some ((),d)):∃w1 b,ku g uh=some ((),w1)/\lX (DR (mm 5000) 100) xs w1=some ((),b)/\Ex b d/\b.nm=d.nm/\((pX b.ss=true/\d=b)\/∃z,d.no=some z/\d.ss=b.ss++[{fd with code:=8,a:=(z:Int)}]):=by
 unfold AB at h;obtain⟨_,w1,h1,h⟩:=d_ h;obtain⟨_,b,h2,c⟩:=d_ h;rw[eZ]at h2;unfold Dj at c;split at c
 ·rename_i o;injection c with c;injection c with _ c;subst c;exact⟨w1,b,h1,h2,Ex.refl _,rfl,.inl ⟨o,rfl⟩⟩
 ·obtain⟨z,p,m,k⟩:=d_ c;obtain⟨f,-,-,n,j⟩:=nR m;obtain⟨i,e,l,-,-⟩:=pN k;exact⟨w1,b,h1,h2,f.ex.trans e,by rw[l,f.nm],.inr ⟨z,e.no z n,by rw[i,j]⟩⟩
theorem PK{X:Cx}{g:Nat}(b:∀g'≤g,∀t e c,jl X->RE e c t->SV fsT lk X (mm 5000).V g' t/\SL fsT lk X (mm 5000).L g' t/\SU fsT lk X (mm 5000).U g' t){j:eR}{xs:List Tr}{e:Nat}(l:j.body=chain xs)(m:∀x∈xs,RS e 1 x)(p:uM lk j= .ok ())(q:AB j.ps j.body=some ((),X.wf))(u:X.F.steps=X.wf.ss)(y:X.F.types=X.wf.ts)(A:gB X.wf.ss)(B:X.wf.ss.length<=4990)(C:List Vl)(s:TS)(D:C.length=j.ps.length):
  (∀r E,iq fsT g X.d ((j.ps.map (·.1)).zip C).reverse j.body s= .ok (r,E)->∃n,n+10000*E.fuel<=1+10000*s.fuel/\∀f,oq X.fs X.d X.F 0 (C++List.replicate (X.F.types.length-C.length) (0,none)) (li s (f+n))= .ok (r.1.getD 0,li E f))/\
  (∀w out,iq fsT g X.d ((j.ps.map (·.1)).zip C).reverse j.body s= .error (w,out)->w≠6->w≠99->∃n,n<=1+10000*s.fuel/\∀f,oq X.fs X.d X.F 0 (C++List.replicate (X.F.types.length-C.length) (0,none)) (li s (f+n))= .error (w,out)):=by
 rw[l]at q⊢;obtain⟨w1,G,h1,h2,H,I,J⟩:=Sh q;unfold uM at p;obtain⟨K,M,p⟩:=eE p;obtain⟨N,O,-⟩:=eE p;rw[l]at O;obtain⟨o,P⟩:=aB (C++List.replicate (X.F.types.length-C.length) ((0,none):Vl));rw[<-P];obtain⟨Q,S,T,W,Y,Z⟩:=wq (X:=X) j.ps ([],0) K uh w1 C [] o M h1 wu Cg D (λi v I=>by
  rw[P,show uh.ts.length+i=i from bQ i,aW (aK.1 I).1];exact I)
 have q:=Q.ok wu;have st:=tR (lk:=lk) 5000 100 e 1 xs K N w1 G m O h2 q S;have p:=st.ex.trans H;have C:=p.ok q;have D:jl X:=⟨C,u.symm,by rw[y],by rw[u];exact A⟩;have M:w1.ts.length=j.ps.length:=by rw[W];exact bQ _
 have I:j.ps.length<=X.F.types.length:=by rw[y,<-M];exact p.tl
 have Q:o.length=X.F.types.length:=by rw[P];simp;omega
 have A:Rd X [] uh.nm [] o:=by
  refine⟨Q,λx k e=>(by cases e),λz C=>?_⟩;have W:j.ps.length<=z:=by
   rcases p.n3 z C with h|h
   ·rw[Y]at h;cases h
   ·omega
  rw[pn,P,aX (by omega)];rw[dl];split<;>rfl
 have y:=Z p A;rw[bT]at y;have M:w1.ss.length=0:=by rw[T];rfl
 have l:=vQ D (by rw[u];exact B) (λg' I t e c Q=>b g' I t e c D Q) 100 e 1 xs g K N _ o s w1 G (aD _) m O h2 H q S y;rw[M]at l;refine⟨λr E j=>?_,λw out j P Y=>?_⟩
 ·obtain⟨n,C,W,Z,p,P,Y⟩:=l.ok r E j;obtain⟨r,A⟩:=r;cases r with
  |some z=>
   obtain⟨B,b,c,H⟩:=Y z rfl;refine⟨n+1,by omega,λf=>?_⟩;have:=p (f+1);rw[show f+1+n=f+(n+1) by omega]at this;rw[this,f_8 b c,H];rfl
  |none=>
   obtain⟨b,c⟩:=P rfl;rcases J with⟨J,-⟩|⟨z,J,K⟩
   ·exfalso;rcases Hk 100 e 1 xs g _ _ _ _ _ _ _ m j h2 with N|N
    ·rw[N,T]at J;cases J
    ·rw[N]at J;cases J
   ·have O:X.F.steps[G.ss.length]?=some {fd with code:=8,a:=(z:Int)}:=by rw[u,K];simp
    refine⟨n+1,by omega,λf=>?_⟩;have:=p (f+1);rw[show f+1+n=f+(n+1) by omega]at this;rw[this,b,f_8 O rfl];dsimp only;rw[c.zr z J];rfl
 ·obtain⟨n,Z,p⟩:=l.er w out j P Y;exact⟨n,by omega,p⟩
end
structure Le (L:List eR) (M:List Mf):Prop where
 rf:∀F∈L,RF F
 chk:chk L= .ok true
 fn:∀nm T,L.find? (λF=>F.nm==nm)=some T->∃wf,AB T.ps T.body=some ((),wf)/\iQ M nm=some ⟨T.nm,T.ps.length,wf.ts,wf.ss⟩/\gB wf.ss/\wf.ss.length<=4990
theorem Lg{L:List eR}{b:List Mf}(h:Le L b):∀g,Jc (λnm=>L.find? (λF=>F.nm==nm)) (iQ b) g:=by
 intro g
 induction g using Nat.strongRecOn with
 |_ g c=>
  intro nm f i;obtain⟨j,h1,h2,k,m⟩:=h.fn nm f i;refine⟨_,h2,λd n s o=>?_⟩;have p:f∈L:=bu i;obtain⟨-,-,-,xs,e,q,r⟩:=h.rf f p;have hc:=h.chk;unfold Go.Proofs.YtnfhpdbbfejioaaGreatDoor.chk at hc;obtain⟨_,-,hc⟩:=eE hc;obtain⟨_,u,-⟩:=eE hc;have v:uM (eU L) f= .ok ():=by
   have:∀(l:List eR),oL (eU L) l= .ok ()->∀F∈l,uM (eU L) F= .ok ():=λl=>by
    induction l with
    |nil=>intro _ F w;simp at w
    |cons a l x=>
     intro h F w;rw[oL]at h;obtain⟨_,y,z⟩:=eE h;rcases aY.1 w with rfl|w
     ·exact y
     ·exact x z F w
   exact this L u f p
  exact PK (fsT:=λnm=>L.find? (λF=>F.nm==nm)) (lk:=eU L) (X:=⟨iQ b,d,⟨f.nm,f.ps.length,j.ts,j.ss⟩,j⟩) (g:=g) (λg' A t B C D E=>by
   have:=LV (fsT:=λnm=>L.find? (λF=>F.nm==nm)) (lk:=eU L) D (λnm G H=>by
    unfold eU at H;obtain⟨F,w,e⟩:=bA.1 H;exact⟨F,w,e⟩) g (λI J=>c I J) 5000 g' t B C A E
   exact⟨this.1,this.2.1,this.2.2.1⟩) q r v h1 rfl rfl k m n s o
theorem PL{L:List eR}{M:List Mf}(h:Le L M)(C:gy M=true){g g':Nat}{inp:List Int}{fuel:Nat}(B:10000*fuel+10000<g')(a:(Aq g L inp fuel).1≠6/\(Aq g L inp fuel).1≠99):gO g' M inp ((10000*fuel+10000:Nat):Int)=Aq g L inp fuel:=by
 obtain⟨T,t,c⟩:∃T,L.find? (λF=>F.nm==iC)=some T/\T.ps=[]:=by
  have hc:=h.chk;unfold Go.Proofs.YtnfhpdbbfejioaaGreatDoor.chk at hc;obtain⟨_,-,hc⟩:=eE hc;obtain⟨_,-,hc⟩:=eE hc;injection hc with hc;split at hc
  ·rename_i e;unfold eU at e;obtain⟨F,A,e⟩:=bA.1 e;exact⟨F,A,e⟩
  ·cases hc
 obtain⟨G,y,x⟩:=Lg h (g-1) iC T t;obtain⟨j,k⟩:=x 1 [] ⟨fuel,inp,[],[]⟩ (by rw[c];rfl);rw[c]at j k;simp only[List.map_nil,List.zip_nil_left,List.reverse_nil,dV,bN,Nat.sub_zero]at j k;have i:gO g' M inp ((10000*fuel+10000:Nat):Int)=match oq (iQ M) 1 G 0 (List.replicate G.types.length (0,none)) (li ⟨fuel,inp,[],[]⟩ (10000*fuel+10000)) with
   | .error (w,out)=>(w,0,out)
   | .ok (z,s)=>(1,z,s.out):=by
  unfold gO;rw[if_pos C,y];dsimp only;unfold fK;rw[if_neg (by decide)];have:iK (iQ M) g' (0+1) G 0 (List.replicate G.types.length (0,none)) ⟨((10000*fuel+10000:Nat):Int),inp,[],[]⟩=oq (iQ M) 1 G 0 (List.replicate G.types.length (0,none)) (li ⟨fuel,inp,[],[]⟩ (10000*fuel+10000)):=nJ (by show(((10000*fuel+10000:Nat):Int)).toNat<g';omega);rw[this];rfl
 rw[i];unfold Aq at a⊢;cases g with
 |zero=>exact absurd rfl a.2
 |succ g=>
  have m:=Eh (λnm=>L.find? (λF=>F.nm==nm)) g 0 [] 0 0 iC [] .nil .nil ce t;have d:=m;rw[d]at a⊢;cases g with
  |zero=>exact absurd rfl a.2
  |succ g=>
   rw[D_]at a⊢;have u:∀(f:List Vl->TG Vl)(s:TS),au (ar []) f s=f [] s:=λf s=>rfl;rw[u]at a⊢;rw[if_neg (by decide),c]at a⊢;simp only[List.map_nil,List.zip_nil_left,List.reverse_nil,bQ]at a⊢;simp only[dG]at j k;unfold au at a⊢;cases b:iq (λnm=>L.find? (λF=>F.nm==nm)) (g+1) 1 [] T.body ⟨fuel,inp,[],[]⟩ with
   |error e=>
    obtain⟨w,out⟩:=e;rw[b]at a;obtain⟨n,q,o⟩:=k w out b a.1 a.2;have l:=q;have:=o (10000*fuel+10000-n);rw[show 10000*fuel+10000-n+n=10000*fuel+10000 by omega]at this;rw[this]
   |ok p=>
    obtain⟨r,v⟩:=p;obtain⟨n,q,o⟩:=j r v b;have l:=q;have:=o (10000*fuel+10000-n);rw[show 10000*fuel+10000-n+n=10000*fuel+10000 by omega]at this;rw[this];rfl
def fF:Tr->Nat
 | .agg [_,_,_,_,_,l,r,g]=>fF l+fF r+fF g+1
 | .slice [x] [g]=>fF x+fF g
 |_=>0
theorem gR(c a n:Int)(nm b:By)(l r g:Tr):fF (nd c a n nm b l r g)=fF l+fF r+fF g+1:=by rw[fF]
theorem yM(x g:Tr):fF (cc x g)=fF x+fF g:=by rw[fF]
theorem kD:fF ce=0:=by simp[fF]
theorem fS:fF .nil=0:=by simp[fF]
def kX(ts:List Int)(p k:Int):Prop:=∃q:Nat,p=(q:Int)/\ts[q]?=some k
theorem kX.mono{ts a:List Int}{p k:Int}(h:kX ts p k)(b:ts<+:a):kX a p k:=by
 obtain⟨q,h1,h2⟩:=h;exact⟨q,h1,eN b h2⟩
theorem kX.lt{ts:List Int}{p k:Int}(h:kX ts p k):0<=p/\p<ts.length:=by
 obtain⟨q,h1,h2⟩:=h;have:=(aK.1 h2).1;omega
structure DT (lk:By->Option Nm) (ts:List Int) (s:Ms):Prop where
 c:1<=s.code/\s.code<=14
 d1:s.code=1\/s.code=3\/s.code=7\/s.code=10\/s.code=11\/s.code=14->kX ts s.dst 1
 d2:s.code=9->kX ts s.dst 2
 cp:s.code=2->∃k,(k=1\/k=2)/\kX ts s.dst k/\kX ts s.a k
 a1:s.code=3\/s.code=5\/s.code=8\/s.code=9\/s.code=13->kX ts s.a 1
 a2:s.code=10\/s.code=11\/s.code=12->kX ts s.a 2
 b1:s.code=3\/s.code=11\/s.code=12->kX ts s.b 1
 c1:s.code=12->kX ts s.c 1
 op:s.code=3->s.op∈([[43],[45],[42],[47],[37],[61,61],[33,61],[60],[60,61],[62],[62,61]]:List By)
 ag:s.code=7->∃qs,lk s.name=some qs/\s.args.length=qs.length/\∀(i:Nat)(x:Int)(q:By×Int),s.args[i]?=some x->qs[i]?=some q->kX ts x q.2
theorem DT.mono{lk:By->Option Nm}{ts a:List Int}{s:Ms}(h:DT lk ts s)(b:ts<+:a):DT lk a s:=by
 refine⟨h.c,λe=>(h.d1 e).mono b,λe=>(h.d2 e).mono b,λe=>?_,λe=>(h.a1 e).mono b,λe=>(h.a2 e).mono b,λe=>(h.b1 e).mono b,λe=>(h.c1 e).mono b,h.op,λe=>?_⟩
 ·obtain⟨k,h1,h2,d⟩:=h.cp e;exact⟨k,h1,h2.mono b,d.mono b⟩
 ·obtain⟨f,h1,h2,d⟩:=h.ag e;exact⟨f,h1,h2,λi x q g j=>(d i x q g j).mono b⟩
def jm(l:List Ms):List Int:=(l.filter (λs=>s.code==6)).map (·.label)
theorem rj(l:List Ms)(s:Ms):jm (l++[s])=jm l++(if s.code=6 then[s.label] else[]):=by
 unfold jm;rw[dJ,cN];congr 1;by_cases h:s.code=6<;>simp[h]
structure Gd (lk:By->Option Nm) (ns:Nm) (pend:List Int) (w:Wr):Prop where
 ty:∀x∈w.ts,x=1\/x=2
 s1:∀p∈w.sp1,w.ts[p]?=some 1
 s2:∀p∈w.sp2,w.ts[p]?=some 2
 no:∀z,w.no=some z->w.ts[z]?=some 1
 nm:∀x k,gP ns x=some k->∃p,w.nm.lookup x=some p/\w.ts[p]?=some k
 u1:w.u1<=w.sp1.length
 u2:w.u2<=w.sp2.length
 st:∀s∈w.ss,DT lk w.ts s
 nd:(jm w.ss++pend).Nodup
 le:∀e∈jm w.ss++pend,e<=(w.lb:Int)
 go:∀s∈w.ss,s.code=4\/s.code=5->s.label∈jm w.ss++pend
def tz(w:Wr):Nat:=w.ts.length+(if w.no.isNone then 1 else 0)
theorem iJ(w:Wr):w.ts.length<=tz w:=Nat.le_add_right _ _
structure Rm (w:Wr) (a b c:Nat):Prop where
 s:w.ss.length+a<=90000
 t:tz w+b<=90000
 l:w.lb+c<=90000
theorem fJ{n:Nat}(h:n<=100000):kh (n:Int)=true:=by
 unfold kh;simp;omega
theorem mE{lk:By->Option Nm}{ns:Nm}{pend:List Int}{w:Wr}(h:Gd lk ns pend w){s:Ms}(a:DT lk w.ts s)(b:yc s=true)(c:s.code≠6)(d:s.code=4\/s.code=5->s.label∈jm w.ss++pend)(f:w.ss.length<100000):gX s w=some ((),{w with ss:=w.ss++[s]})/\Gd lk ns pend {w with ss:=w.ss++[s]}:=by
 have el:jm (w.ss++[s])=jm w.ss:=by rw[rj,if_neg c,bT]
 refine⟨by unfold gX;rw[if_pos (by simp[f,b])],⟨h.ty,h.s1,h.s2,h.no,h.nm,h.u1,h.u2,λx g=>?_,?_,?_,λx g e=>?_⟩⟩
 ·rcases iw g with g|rfl
  ·exact h.st x g
  ·exact a
 ·show(jm (w.ss++[s])++pend).Nodup;rw[el];exact h.nd
 ·show∀e∈jm (w.ss++[s])++pend,_;rw[el];exact h.le
 ·show x.label∈jm (w.ss++[s])++pend;rw[el];rcases iw g with g|rfl
  ·exact h.go x g e
  ·exact d e
theorem rJ{lk:By->Option Nm}{ns:Nm}{e:Nat}{pend:List Int}{w:Wr}(h:Gd lk ns ((e:Int)::pend) w)(a:e<=100000)(b:w.ss.length<100000):∃w',jt e w=some ((),w')/\Gd lk ns pend w'/\w'={w with ss:=w.ss++[{fd with code:=6,label:=(e:Int)}]}:=by
 refine⟨{w with ss:=w.ss++[{fd with code:=6,label:=(e:Int)}]},?_,?_,rfl⟩
 ·unfold jt gX;rw[if_pos];have:kh (e:Int)=true:=fJ a;simp[b,yc,this,fd];decide
 ·have el:jm (w.ss++[{fd with code:=6,label:=(e:Int)}])++pend=jm w.ss++((e:Int)::pend):=by rw[rj];simp
  refine⟨h.ty,h.s1,h.s2,h.no,h.nm,h.u1,h.u2,λx c=>?_,?_,?_,λx c e=>?_⟩
  ·rcases iw c with c|rfl
   ·exact h.st x c
   ·exact⟨⟨by show(1:Int)<=6;decide,by show(6:Int)<=14;decide⟩,by simp,by simp,by simp,by simp,by simp,by simp,by simp,by simp,by simp⟩
  ·show(jm (w.ss++[_])++pend).Nodup;rw[el];exact h.nd
  ·show∀e∈jm (w.ss++[_])++pend,_;rw[el];exact h.le
  ·show x.label∈jm (w.ss++[_])++pend;rw[el];rcases iw c with c|rfl
   ·exact h.go x c e
   ·simp at e
theorem jX{l:List Int}{x:Int}:(l++[x])[l.length]?=some x:=by simp
theorem Gd.grow{lk:By->Option Nm}{ns:Nm}{pend:List Int}{w:Wr}(h:Gd lk ns pend w){k:Int}(hk:k=1\/k=2):Gd lk ns pend {w with ts:=w.ts++[k]}:=by
 have a:w.ts<+:w.ts++[k]:=bf _ _;refine⟨λx b=>?_,λp c=>eN a (h.s1 p c),λp c=>eN a (h.s2 p c),λz d=>eN a (h.no z d),λx k e=>?_,h.u1,h.u2,λs f=>(h.st s f).mono a,h.nd,h.le,h.go⟩
 ·rcases iw b with b|rfl
  ·exact h.ty x b
  ·exact hk
 ·obtain⟨p,h1,h2⟩:=h.nm x k e;exact⟨p,h1,eN a h2⟩
theorem wy{lk:By->Option Nm}{ns:Nm}{pend:List Int}{w:Wr}(h:Gd lk ns pend w)(a:tz w<90000):∃p w',h_ w=some (p,w')/\Gd lk ns pend w'/\w'.ts[p]?=some 1/\tz w'<=tz w+1/\w'.lb=w.lb:=by
 unfold h_;have:=iJ w;by_cases b:w.u1=w.sp1.length
 ·rw[if_pos b,if_pos (by omega)];have g:=h.grow (k:=1) (.inl rfl);refine⟨_,_,rfl,⟨g.ty,λp c=>?_,g.s2,g.no,g.nm,by simp[b],g.u2,g.st,g.nd,g.le,g.go⟩,jX,?_,rfl⟩
  ·rcases iw c with c|rfl
   ·exact g.s1 p c
   ·exact jX
  ·unfold tz;simp;omega
 ·rw[if_neg b];have d:w.u1<w.sp1.length:=by have:=h.u1;omega
  rw[aI d];exact⟨_,_,rfl,⟨h.ty,h.s1,h.s2,h.no,h.nm,d,h.u2,h.st,h.nd,h.le,h.go⟩,h.s1 _ (List.getElem_mem d),by show tz w<=_;omega,rfl⟩
theorem Lr{lk:By->Option Nm}{ns:Nm}{pend:List Int}{w:Wr}(h:Gd lk ns pend w)(a:tz w<90000):∃p w',rz w=some (p,w')/\Gd lk ns pend w'/\w'.ts[p]?=some 2/\tz w'<=tz w+1/\w'.lb=w.lb:=by
 unfold rz;have:=iJ w;by_cases b:w.u2=w.sp2.length
 ·rw[if_pos b,if_pos (by omega)];have g:=h.grow (k:=2) (.inr rfl);refine⟨_,_,rfl,⟨g.ty,g.s1,λp c=>?_,g.no,g.nm,g.u1,by simp[b],g.st,g.nd,g.le,g.go⟩,jX,?_,rfl⟩
  ·rcases iw c with c|rfl
   ·exact g.s2 p c
   ·exact jX
  ·unfold tz;simp;omega
 ·rw[if_neg b];have d:w.u2<w.sp2.length:=by have:=h.u2;omega
  rw[aI d];exact⟨_,_,rfl,⟨h.ty,h.s1,h.s2,h.no,h.nm,h.u1,d,h.st,h.nd,h.le,h.go⟩,h.s2 _ (List.getElem_mem d),by show tz w<=_;omega,rfl⟩
theorem Ls{lk:By->Option Nm}{ns:Nm}{pend:List Int}{w:Wr}(h:Gd lk ns pend w){k:Int}(hk:k=1\/k=2)(a:tz w<90000):∃p w',nX k w=some (p,w')/\Gd lk ns pend w'/\w'.ts[p]?=some k/\tz w'<=tz w+1/\w'.lb=w.lb:=by
 unfold nX;rcases hk with rfl|rfl
 ·rw[if_neg (by decide),if_pos rfl];exact wy h a
 ·rw[if_pos rfl];exact Lr h a
theorem Ak{lk:By->Option Nm}{ns:Nm}{pend:List Int}{w:Wr}(h:Gd lk ns pend w)(a:tz w<=90000):∃z w',kO w=some (z,w')/\Gd lk ns pend w'/\w'.ts[z]?=some 1/\tz w'=tz w/\w'.lb=w.lb:=by
 unfold kO;cases b:w.no with
 |some z=>exact⟨z,w,rfl,h,h.no z b,rfl,rfl⟩
 |none=>
  have:=iJ w;dsimp only;rw[if_pos (by omega)];have g:=h.grow (k:=1) (.inl rfl);refine⟨_,_,rfl,⟨g.ty,g.s1,g.s2,λz e=>?_,g.nm,g.u1,g.u2,g.st,g.nd,g.le,g.go⟩,jX,?_,rfl⟩
  ·injection e with e;subst e;exact jX
  ·unfold tz;rw[b];simp
theorem mW{lk:By->Option Nm}{ns:Nm}{pend:List Int}{w:Wr}(h:Gd lk ns pend w)(c:w.lb<90000):∃e w',gY w=some (e,w')/\Gd lk ns ((e:Int)::pend) w'/\tz w'=tz w/\w'.lb=w.lb+1/\e=w.lb+1:=by
 unfold gY;rw[if_pos (by omega)];refine⟨_,_,rfl,⟨h.ty,h.s1,h.s2,h.no,h.nm,h.u1,h.u2,h.st,?_,λe d=>?_,λs f e=>?_⟩,rfl,rfl,rfl⟩
 ·have g:=h.nd;rw[b_]at g⊢;refine⟨g.1,cj.2 ⟨λi=>?_,g.2.1⟩,λa j b k=>?_⟩
  ·have:=h.le _ (bJ _ i);omega
  ·rcases aY.1 k with rfl|k
   ·have:=h.le a (cF _ j);omega
   ·exact g.2.2 a j b k
 ·show e<=((w.lb+1:Nat):Int);rcases bE.1 d with d|d
  ·have:=h.le e (cF _ d);omega
  ·rcases aY.1 d with rfl|d
   ·omega
   ·have:=h.le e (bJ _ d);omega
 ·rcases bE.1 (h.go s f e) with h1|h1
  ·exact cF _ h1
  ·exact bJ _ (b9 _ h1)
theorem Al{lk:By->Option Nm}{ns:Nm}{pend:List Int}{w:Wr}(h:Gd lk ns pend w){a b:Nat}(c:a<=w.sp1.length)(d:b<=w.sp2.length):lB a b w=some ((),{w with u1:=a,u2:=b})/\Gd lk ns pend {w with u1:=a,u2:=b}:=⟨rfl,⟨h.ty,h.s1,h.s2,h.no,h.nm,c,d,h.st,h.nd,h.le,h.go⟩⟩
def jv:Tr->Nat
 | .agg [.lit (.int _ c),_,_,_,.lit (.string a),_,_,_]=>if c=3/\(a=[38,38]\/a=[124,124]) then 1 else 0
 |_=>0
theorem nP(c a n:Int)(nm b:By)(l r g:Tr):jv (nd c a n nm b l r g)=if c=3/\(b=[38,38]\/b=[124,124]) then 1 else 0:=rfl
theorem gi(t:Tr):jv t<=1:=by
 unfold jv;split
 ·split<;>omega
 ·omega
theorem fG{e b:Nat}{t:Tr}(h:RE e b t):1<=fF t:=by
 cases e with
 |zero=>exact h.elim
 |succ e=>
  rw[RE]at h;rcases h.2 with⟨a,n,-,-,rfl⟩|⟨a,nm,-,rfl⟩|⟨a,c,l,r,-,-,-,rfl⟩|⟨a,c,l,-,-,rfl⟩|⟨a,nm,xs,-,-,rfl⟩|⟨a,l,-,rfl⟩|⟨a,l,-,rfl⟩|⟨a,l,r,-,-,rfl⟩|⟨a,rfl⟩<;>rw[gR]<;>omega
theorem iM{s:Ms}(h1:kh s.code=true)(h2:kh s.dst=true)(d:kh s.a=true)(e:kh s.b=true)(f:kh s.c=true)(g:kh s.n=true)(h:kh s.label=true)(i:s.op.length<=1000)(j:s.name.length<=1000)(k:s.args.length<=100000)(l:s.args.all kh=true):yc s=true:=by
 unfold yc;simp[h1,h2,d,e,f,g,h,i,j,k];simpa using l
theorem eO:kh 0=true:=by decide
structure PoV (lk:By->Option Nm) (ns:Nm) (pend:List Int) (t:Tr) (kk:Int) (w:Wr) (p:Nat) (w':Wr):Prop where
 gd:Gd lk ns pend w'
 ty:w'.ts[p]?=some kk
 ks:w'.ss.length+3<=w.ss.length+4*fF t+jv t
 kt:tz w'+1<=tz w+2*fF t+jv t
 kl:w'.lb<=w.lb+2*fF t
structure PoL (lk:By->Option Nm) (ns:Nm) (pend:List Int) (t:Tr) (kk:Int) (w:Wr) (st:Ms) (w':Wr):Prop where
 gd:Gd lk ns pend w'
 ty:∀(ts:List Int)(p:Nat),w'.ts<+:ts->ts[p]?=some kk->p<=90000->DT lk ts {st with dst:=(p:Int)}/\yc {st with dst:=(p:Int)}=true
 c:st.code≠4/\st.code≠5/\st.code≠6
 ks:w'.ss.length+4<=w.ss.length+4*fF t+jv t
 kt:tz w'+2<=tz w+2*fF t+jv t
 kl:w'.lb<=w.lb+2*fF t
structure PoU (lk:By->Option Nm) (ns:Nm) (pend:List Int) (t:Tr) (m:Nat) (w:Wr) (w':Wr):Prop where
 gd:Gd lk ns pend w'
 ks:w'.ss.length+m+(6-m)*jv t<=w.ss.length+4*fF t
 kt:tz w'+2*jv t<=tz w+2*fF t
 kl:w'.lb+jv t<=w.lb+2*fF t
section
variable {lk : By → Option Nm}
def CV(lk:By->Option Nm)(a:Tr->Lm Nat)(t:Tr):Prop:=∀ns pend w b,ck lk ns t []= .ok b->Gd lk ns pend w->Rm w (4*fF t) (2*fF t) (2*fF t)->∃p w',a t w=some (p,w')/\PoV lk ns pend t b w p w'
def CL(lk:By->Option Nm)(L:Tr->Lm Ms)(t:Tr):Prop:=∀ns pend w a,ck lk ns t []= .ok a->Gd lk ns pend w->Rm w (4*fF t) (2*fF t) (2*fF t)->∃st w',L t w=some (st,w')/\PoL lk ns pend t a w st w'
def CU(lk:By->Option Nm)(m:Nat)(a:Tr->Nat->Lm Unit)(t:Tr):Prop:=∀ns pend w (e:Nat),ck lk ns t []= .ok 1->(e:Int)∈pend->Gd lk ns pend w->Rm w (4*fF t-4*jv t) (2*fF t-2*jv t) (2*fF t-jv t)->∃w',a t e w=some ((),w')/\PoU lk ns pend t m w w'
theorem eG{α b:Type}{x:Lm α}{f:α->Lm b}{w w1:Wr}{a:α}(h:x w=some (a,w1)):lb x f w=f a w1:=by unfold lb;rw[h]
theorem vA{ns:Nm}{e b:Nat}{t:Tr}{d:Int}{f:Nm}(g:RE e b t)(h:ck lk ns t f= .ok d)(c a n:Int)(nm i:By)(l r xs:Tr)(j:t=nd c a n nm i l r xs)(hc:c≠2):d=if c=6 then 2 else 1:=by
 cases e with
 |zero=>exact g.elim
 |succ e=>
  rw[RE]at g;have k:∀{m o p:Int}{q s:By}{u v w:Tr},nd m o p q s u v w=nd c a n nm i l r xs->m=c:=λe=>by injection e with e;injection e with e _;injection e with e;injection e
  rcases g.2 with⟨a,n,-,-,rfl⟩|⟨a,nm,-,rfl⟩|⟨a,i,l,r,-,-,-,rfl⟩|⟨a,i,l,-,-,rfl⟩|⟨a,nm,xs,-,-,rfl⟩|⟨a,l,-,rfl⟩|⟨a,l,-,rfl⟩|⟨a,l,r,-,-,rfl⟩|⟨a,rfl⟩
  ·have:=k j;subst this;exact Je (.inl h)
  ·exact absurd (k j).symm hc
  ·have:=k j;subst this;exact(oT h).2.2
  ·have:=k j;subst this;exact(uj h).2
  ·have:=k j;subst this;obtain⟨_,_,_,_,h⟩:=Cz h;exact h
  ·have:=k j;subst this;exact(CA h).2
  ·have:=k j;subst this;exact(CB h).2
  ·have:=k j;subst this;exact(zk h).2.2
  ·have:=k j;subst this;exact Je (.inr h)
theorem AQ{c a:Int}(h:a=if c=6 then 2 else 1):a=1\/a=2:=by
 split at h
 ·exact .inr h
 ·exact .inl h
theorem NS{F:Lf}(d:iR F){t:Tr}{e f:Nat}(h:RE e f t)(i:CL lk F.L t):CV lk (qZ F) t:=by
 intro ns pend w j m o u;have v:=fG h;obtain⟨c,a,n,nm,x,l,r,xs,rfl⟩:∃c a n nm x l r g,t=nd c a n nm x l r g:=by
  cases e with
  |zero=>exact h.elim
  |succ e=>
   rw[RE]at h;rcases h.2 with⟨a,n,-,-,rfl⟩|⟨a,nm,-,rfl⟩|⟨a,x,l,r,-,-,-,rfl⟩|⟨a,x,l,-,-,rfl⟩|⟨a,nm,xs,-,-,rfl⟩|⟨a,l,-,rfl⟩|⟨a,l,-,rfl⟩|⟨a,l,r,-,-,rfl⟩|⟨a,rfl⟩<;>exact⟨_,_,_,_,_,_,_,_,rfl⟩
 by_cases hc:c=2
 ·subst hc;obtain⟨q,h1,h2⟩:=o.nm _ _ (vw m);have y:nm.length<=1000:=by
   cases e with
   |zero=>exact h.elim
   |succ e=>
    rw[RE]at h;have z:∀{A B C:Int}{nm' D:By}{E G H:Tr},nd 2 a n nm x l r xs=nd A B C nm' D E G H->(2:Int)=A/\nm=nm':=λe=>by
     injection e with e;injection e with e1 e;injection e with _ e;injection e with _ e;injection e with e2 _;injection e1 with e1;injection e1 with _ e1;injection e2 with e2;injection e2 with e2;exact⟨e1,e2⟩
    rcases h.2 with⟨_,_,-,-,I⟩|⟨_,nm',J,I⟩|⟨_,_,_,_,-,-,-,I⟩|⟨_,_,_,-,-,I⟩|⟨_,_,_,-,-,I⟩|⟨_,_,-,I⟩|⟨_,_,-,I⟩|⟨_,_,_,-,-,I⟩|⟨_,I⟩
    ·exact absurd (z I).1 (by decide)
    ·rw[(z I).2];have:=J.2.2.2.2;omega
    all_goals exact absurd (z I).1 (by decide)
  refine⟨q,w,?_,o,h2,by omega,by omega,by omega⟩;rw[L_];unfold iH;rw[if_pos y];unfold nG;rw[h1];rfl
 ·obtain⟨st,w1,K,M⟩:=i ns pend w j m o u;obtain⟨N,O,P,Q⟩:=d.L _ _ _ _ K;have S:=vA h m _ _ _ _ _ _ _ _ rfl hc;have T:=N.ex.sl;obtain⟨u1,u2⟩:=Al M.gd (a:=w.u1) (b:=w.u2) (by have:=o.u1;have:=N.ex.p1.length_le;omega) (by have:=o.u2;have:=N.ex.p2.length_le;omega);have U:=M.kt;have V:=M.ks;have W:=u.t;have Y:=u.s;have Z:=gi (nd c a n nm x l r xs);obtain⟨p,w3,f,v,A,B,C⟩:=Ls u2 (k:=j) (AQ S) (by show tz w1<90000;omega);have D:=vF f;have E:w3.ss=w1.ss:=D.2.1;have G:tz w3<=tz w1+1:=B;have H:w3.lb=w1.lb:=C;have y:p<w3.ts.length:=(aK.1 A).1;have z:=iJ w3;have I:qZ F (nd c a n nm x l r xs) w=pV st p w3:=by
   rw[Ma _ _ _ _ _ _ _ _ hc,eG K,eG u1];have hk:kQ c nm {w1 with u1:=w.u1,u2:=w.u2}=some (j,{w1 with u1:=w.u1,u2:=w.u2}):=by
    unfold kQ;rw[if_neg hc,S]
   rw[eG hk,eG f]
  rw[I];unfold pV;by_cases J:st.code=2/\st.a=(p:Int)
  ·rw[if_pos J];exact⟨p,w3,rfl,v,A,by rw[E];omega,by omega,by rw[H];exact M.kl⟩
  ·rw[if_neg J];have i:w1.ts<+:w3.ts:=D.1.ex.ts;have O:DT lk w3.ts {st with dst:=(p:Int)}/\yc {st with dst:=(p:Int)}=true:=M.ty w3.ts p i A (by omega);obtain⟨P,d⟩:=mE v O.1 O.2 M.c.2.2 (λe=>by rcases e with e|e;exact absurd e M.c.1;exact absurd e M.c.2.1) (by rw[E];omega);rw[eG P];refine⟨p,_,rfl,d,A,?_,?_,?_⟩
   ·show(w3.ss++[_]).length+3<=_;rw[E];simp;omega
   ·show tz w3+1<=_;omega
   ·show w3.lb<=_;rw[H];exact M.kl
end
section
variable {lk : By → Option Nm}
theorem Nx{a:By}(h:1<=fT a):a.length<=1000:=by
 obtain⟨x,b,rfl,-⟩:=rb h;simp only[gA,aY,dy,or_false]at b;rcases b with rfl|rfl|rfl|rfl|rfl|rfl|rfl|rfl|rfl|rfl|rfl|rfl|rfl<;>simp
theorem m_{ts:List Int}{p:Nat}{k:Int}(h:ts[p]?=some k)(a:ts.length<=90000):kh (p:Int)=true:=fJ (by have:=(aK.1 h).1;omega)
theorem eK{ts:List Int}{p:Nat}{k:Int}(h:ts[p]?=some k):kX ts (p:Int) k:=⟨p,rfl,h⟩
theorem Rm.part{w:Wr}{a b c d e c':Nat}(h:Rm w a b c)(f:d<=a)(g:e<=b)(hc:c'<=c):Rm w d e c':=⟨by have:=h.s;omega,by have:=h.t;omega,by have:=h.l;omega⟩
theorem Ef{F:Lf}(a:iR F){ns:Nm}{pend:List Int}:∀(xs:List Tr)(b:Nm)(w:Wr)(c:Int),(∀x∈xs,CV lk F.V x/\1<=fF x)->xs.length=b.length->ck lk ns (chain xs) b= .ok c->Gd lk ns pend w->Rm w (4*fF (chain xs)) (2*fF (chain xs)) (2*fF (chain xs))->
  ∃d w',lK F.V xs w=some (d,w')/\Gd lk ns pend w'/\d.length=xs.length/\xs.length<=fF (chain xs)/\(∀(i:Nat)(x:Int)(q:By×Int),d[i]?=some x->b[i]?=some q->kX w'.ts x q.2)/\d.all kh=true/\w.ts<+:w'.ts/\w'.ss.length<=w.ss.length+4*fF (chain xs)/\tz w'<=tz w+2*fF (chain xs)/\w'.lb<=w.lb+2*fF (chain xs)
 |[],b,w,c,e,f,g,j,k=>⟨[],w,rfl,j,rfl,aQ _,λi x q h=>by simp at h,rfl,aN,by omega,by omega,by omega⟩
 |x::xs,[],w,c,e,f,g,j,k=>by simp at f
 |x::xs,m::b,w,c,e,f,g,j,k=>by
  have n:fF (chain (x::xs))=fF x+fF (chain xs):=yM x (chain xs);rw[n]at k⊢;obtain⟨⟨o,r,u⟩,v,z⟩:=QO g;obtain⟨A,B⟩:=e x (by simp);have C:=gi x;obtain⟨p,w1,D,E⟩:=A ns pend w o r j (k.part (by omega) (by omega) (by omega));have G:=E.ks;have H:=E.kt;have I:=E.kl;have J:=k.s;have K:=k.t;have L:=k.l;obtain⟨d,M,N,O,P,Q,S,T,U,W,Y,Z⟩:=Ef a xs b w1 v (λy c=>e y (by simp[c])) (by simpa using f) z E.gd ⟨by omega,by omega,by omega⟩;have m:=(a.V _ _ _ _ D).1.ex.ts;have n:=iJ w1;refine⟨(p:Int)::d,M,?_,O,by simp[P],?_,λi y q g B=>?_,?_,m.trans U,by omega,by omega,by omega⟩
  ·show lb (F.V x) _ w=_;rw[eG D,eG N];rfl
  ·simp;omega
  ·cases i with
   |zero=>
    simp at g B;subst g B;rw[<-u];exact(eK E.ty).mono U
   |succ i=>exact S i y q (by simpa using g) (by simpa using B)
  ·simp only[List.all_cons,bo];exact⟨m_ E.ty (by omega),T⟩
theorem lj{ts:List Int}{s:Ms}(hc:s.code=1\/s.code=3\/s.code=9\/s.code=10\/s.code=11\/s.code=14)(h1:s.code≠9->kX ts s.dst 1)(h2:s.code=9->kX ts s.dst 2)(c:s.code=3\/s.code=9->kX ts s.a 1)(d:s.code=10\/s.code=11->kX ts s.a 2)(f:s.code=3\/s.code=11->kX ts s.b 1)(g:s.code=3->s.op∈([[43],[45],[42],[47],[37],[61,61],[33,61],[60],[60,61],[62],[62,61]]:List By)):DT lk ts s:=by
 refine⟨by omega,λe=>h1 (by omega),h2,λe=>(by omega),λe=>c (by omega),λe=>d (by omega),λe=>f (by omega),λe=>(by omega),g,λe=>(by omega)⟩
theorem Ny{F:Lf}(c:iR F){t:Tr}{e d:Nat}(f:RE (e+1) d t)(g:∀x j,RE e j x->fF x<fF t->CV lk F.V x)(k:jv t=1->CU lk 2 F.U t):CL lk (ui F) t:=by
 intro ns pend w m o u v;have A:=iJ w;have B:=v.s;have C:=v.t;have D:=v.l;have E:=f;rw[RE]at E;have G {st:Ms} {w':Wr} {t:Tr} {w:Wr} (H:oM t=true) (h:ki F t w=some (st,w')):ui F t w=some (st,w'):=by unfold ui;rw[if_pos H];exact h
 have I:∀(ts:List Int)(p:Nat),ts[p]?=some 1->kX ts (p:Int) 1:=λts p h=>eK h;rcases E.2 with⟨a,n,J,K,rfl⟩|⟨a,nm,L,rfl⟩|⟨a,op,l,r,M,N,O,rfl⟩|⟨a,op,l,M,N,rfl⟩|⟨a,nm,xs,L,P,rfl⟩|⟨a,l,N,rfl⟩|⟨a,l,N,rfl⟩|⟨a,l,r,N,O,rfl⟩|⟨a,rfl⟩
 ·have hk:=Je (.inl o);subst hk;have Q:fF (nd 1 a n [] [] .nil .nil ce)=1:=by rw[gR,fS,kD]
  refine⟨_,w,G rfl (by rw[Mb];first|done|rfl),u,λts p S h1 h2=>⟨lj (.inl rfl) (λ_=>eK h1) (by simp) (by simp) (by simp) (by simp) (by simp),iM (by show kh 1=true;decide) (fJ (by omega)) eO eO eO ?_ eO (by simp[fd]) (by simp[fd]) (by simp[fd]) rfl⟩,by simp,by rw[Q];omega,by rw[Q];omega,by omega⟩;unfold kh;simp;omega
 ·obtain⟨q,h1,h2⟩:=u.nm _ _ (vw o);have Q:fF (nd 2 a 0 nm [] .nil .nil ce)=1:=by rw[gR,fS,kD]
  have T:=(aK.1 h2).1;have W:=u.ty m (aM h2);refine⟨{fd with code:=2,a:=(q:Int)},w,G rfl ?_,u,λts p S Y Z=>⟨⟨by simp,by simp,by simp,λ_=>⟨m,W,eK Y,eK (eN S h2)⟩,by simp,by simp,by simp,by simp,by simp,by simp⟩,iM (by show kh 2=true;decide) (fJ (by omega)) (fJ (by omega)) eO eO eO eO (by simp[fd]) (by simp[fd]) (by simp[fd]) rfl⟩,by simp,by rw[Q];omega,by rw[Q];omega,by omega⟩;rw[Mc];have d:iH nm w=some (q,w):=by
   unfold iH;rw[if_pos (by have:=L.2.2.2.2;omega)];unfold nG;rw[h1];rfl
  rw[eG d];rfl
 ·have Q:fF (nd 3 a 0 [] op l r ce)=fF l+fF r+1:=by rw[gR,kD];first|done|omega
  have j:=fG N;have A:=fG O;obtain⟨⟨B,C,D⟩,⟨f,H,I⟩,hk⟩:=oT o;subst hk;by_cases J:op=[38,38]\/op=[124,124]
  ·have K:jv (nd 3 a 0 [] op l r ce)=1:=by rw[nP,if_pos ⟨rfl,J⟩]
   obtain⟨p,w1,T,m,W,A0,A1⟩:=wy u (by omega);obtain⟨A2,A3,A4,A5,A6⟩:=mK T;obtain⟨A7,A8,A9,B0,B1,B2,B3⟩:=mW m (by omega);obtain⟨m,B4,B5,-,-,B6⟩:=fY A9;have B7:=iJ A8;have B8:A8.ts[p]?=some 1:=eN m.ex.ts W;have S3:∀n:Int,kh n=true->yc {fd with code:=1,dst:=(p:Int),n:=n}=true:=λn d=>iM (by show kh 1=true;decide) (m_ B8 (by omega)) eO eO eO d eO (by simp[fd]) (by simp[fd]) (by simp[fd]) rfl;obtain⟨d,W⟩:=mE B0 (s:={fd with code:=1,dst:=(p:Int)}) (lj (.inl rfl) (λ_=>eK B8) (by simp) (by simp) (by simp) (by simp) (by simp)) (S3 0 eO) (by simp) (by simp) (by rw[B6,A6];omega);have B9:(A8.ss++[({fd with code:=1,dst:=(p:Int)}:Ms)]).length=w.ss.length+1:=by rw[B6,A6];simp
   obtain⟨w4,C0,C1⟩:=k K ns _ _ A7 o (cy ..) W ⟨by show(A8.ss++[_]).length+_<=_;rw[B9,K];omega,by show tz A8+_<=_;rw[K];omega,by show A8.lb+_<=_;rw[K];omega⟩;have k:=C1.ks;have W:=C1.kt;have C2:=C1.kl;have C3:w4.ss.length+2+(6-2)*jv (nd 3 a 0 [] op l r ce)<=(A8.ss++[({fd with code:=1,dst:=(p:Int)}:Ms)]).length+4*fF (nd 3 a 0 [] op l r ce):=k;have k:tz w4+2*jv (nd 3 a 0 [] op l r ce)<=tz A8+2*fF (nd 3 a 0 [] op l r ce):=W;have W:w4.lb+jv (nd 3 a 0 [] op l r ce)<=A8.lb+2*fF (nd 3 a 0 [] op l r ce):=C2;rw[K]at C3 k W;rw[B9]at C3;obtain⟨k,-,-⟩:=c.U _ _ _ _ C0;have W:w4.ts[p]?=some 1:=eN k.ex.ts B8;have k:=iJ w4;have k:yc {fd with code:=1,dst:=(p:Int),n:=1}=true:=S3 1 (by decide);obtain⟨C4,C5⟩:=mE C1.gd (s:={fd with code:=1,dst:=(p:Int),n:=1}) (lj (.inl rfl) (λ_=>eK W) (by simp) (by simp) (by simp) (by simp) (by simp)) k (by simp) (by simp) (by omega);obtain⟨k,C6,C7,C8⟩:=rJ C5 (by omega) (by show(w4.ss++[_]).length<_;simp;omega);have C9:k.ss.length=w4.ss.length+2:=by rw[C8];simp
   have D0:tz k=tz w4:=by rw[C8];rfl
   have D1:k.lb=w4.lb:=by rw[C8]
   have D2:k.ts[p]?=some 1:=by rw[C8];exact W
   have D3:=(aK.1 W).1;refine⟨{fd with code:=2,a:=(p:Int)},k,G (by unfold oM;simp[mf]) ?_,C7,λts W S Y Z=>⟨⟨by simp,by simp,by simp,λ_=>⟨1,.inl rfl,eK Y,eK (eN S D2)⟩,by simp,by simp,by simp,by simp,by simp,by simp⟩,iM (by show kh 2=true;decide) (fJ (by omega)) (fJ (by omega)) eO eO eO eO (by simp[fd]) (by simp[fd]) (by simp[fd]) rfl⟩,by simp,by rw[K];omega,by rw[K];omega,by omega⟩;rw[AG];unfold tj;rw[if_pos J];unfold lW;rw[eG T,eG A9,eG d,eG C0,eG C4,eG C6];rfl
  ·have K:jv (nd 3 a 0 [] op l r ce)=0:=by rw[nP,if_neg (λh=>J h.2)]
   have k:=gi l;have T:=gi r;obtain⟨p,w1,d,D4⟩:=g l _ N (by omega) ns pend w B C u (v.part (by omega) (by omega) (by omega));have D5:=D4.ks;have D6:=D4.kt;have D7:=D4.kl;obtain⟨q,A8,D8,D9⟩:=g r _ O (by omega) ns pend w1 f H D4.gd ⟨by omega,by omega,by omega⟩;have E0:=D9.ks;have E1:=D9.kt;have E2:=D9.kl;have E3:=(c.V _ _ _ _ D8).1.ex.ts;have B7:=iJ A8;have E4:A8.ts[p]?=some 1:=by rw[<-D];exact eN E3 D4.ty
   have E5:A8.ts[q]?=some 1:=by rw[<-I];exact D9.ty
   refine⟨{fd with code:=3,op:=op,a:=(p:Int),b:=(q:Int)},A8,G (by unfold oM;simp[mf]) ?_,D9.gd,λts W S Y Z=>⟨lj (.inr (.inl rfl)) (λ_=>eK Y) (by simp) (λ_=>eK (eN S E4)) (by simp) (λ_=>eK (eN S E5)) (λ_=>Bf M (λe=>J (.inl e)) (λe=>J (.inr e))),iM (by show kh 3=true;decide) (fJ (by omega)) (m_ E4 (by omega)) (m_ E5 (by omega)) eO eO eO (Nx M) (by simp[fd]) (by simp[fd]) rfl⟩,by simp,by rw[K];omega,by rw[K];omega,by omega⟩;rw[AG];unfold tj;rw[if_neg J,eG d,eG D8];rfl
 ·have Q:fF (nd 4 a 0 [] op l .nil ce)=fF l+1:=by rw[gR,kD,fS]
  obtain⟨⟨B,C,D⟩,hk⟩:=uj o;subst hk;have k:=gi l;have j:=fG N;obtain⟨p,w1,d,D4⟩:=g l _ N (by omega) ns pend w B C u (v.part (by omega) (by omega) (by omega));have D5:=D4.ks;have D6:=D4.kt;have D7:=D4.kl;obtain⟨z,A8,A2,A3,A4,A5,A6⟩:=Ak D4.gd (by omega);obtain⟨m,-,-,-,M⟩:=nR A2;have B7:=iJ A8;have E4:A8.ts[p]?=some 1:=by rw[<-D];exact eN m.ex.ts D4.ty
  have J:(ki F (nd 4 a 0 [] op l .nil ce)) w=some ((if op=[45] then{fd with code:=3,op:=[45],a:=(z:Int),b:=(p:Int)} else{fd with code:=3,op:=[61,61],a:=(p:Int),b:=(z:Int)}),A8):=by
   rw[Md];unfold ye;rw[eG d,eG A2];rfl
  refine⟨_,A8,G (by unfold oM;simp[mf]) J,A3,λts W S Y Z=>?_,by split<;>simp,by rw[M];omega,by omega,by omega⟩;by_cases K:op=[45]
  ·simp only[if_pos K];exact⟨lj (.inr (.inl rfl)) (λ_=>eK Y) (by simp) (λ_=>eK (eN S A4)) (by simp) (λ_=>eK (eN S E4)) (λ_=>by simp),iM (by show kh 3=true;decide) (fJ (by omega)) (m_ A4 (by omega)) (m_ E4 (by omega)) eO eO eO (by simp) (by simp[fd]) (by simp[fd]) rfl⟩
  ·simp only[if_neg K];exact⟨lj (.inr (.inl rfl)) (λ_=>eK Y) (by simp) (λ_=>eK (eN S E4)) (by simp) (λ_=>eK (eN S A4)) (λ_=>by simp),iM (by show kh 3=true;decide) (fJ (by omega)) (m_ E4 (by omega)) (m_ A4 (by omega)) eO eO eO (by simp) (by simp[fd]) (by simp[fd]) rfl⟩
 ·have Q:fF (nd 5 a 0 nm [] .nil .nil (chain xs))=fF (chain xs)+1:=by rw[gR,fS];omega
  obtain⟨m,C,H,⟨f,M⟩,hk⟩:=Cz o;subst hk;rw[oQ]at H;have J:∀x∈xs,fF x<=fF (chain xs):=by
   have:∀(l:List Tr),∀x∈l,fF x<=fF (chain l):=λl=>by
    induction l with
    |nil=>intro x E;simp at E
    |cons y l K=>
     intro x E;show fF x<=fF (cc y (chain l));rw[yM];rcases aY.1 E with rfl|E
     ·omega
     ·have:=K x E;omega
   exact this xs
  obtain⟨K,w',E6,E7,E8,E9,F0,F1,F2,F3,F4,F5⟩:=Ef c (ns:=ns) (pend:=pend) xs m w f (λx E=>⟨g x _ (P x E) (by have:=J x E;omega),fG (P x E)⟩) H M u (v.part (by omega) (by omega) (by omega));refine⟨{fd with code:=7,name:=nm,args:=K},w',G ?_ ?_,E7,λts W S Y Z=>⟨⟨by simp,λ_=>eK Y,by simp,by simp,by simp,by simp,by simp,by simp,by simp,λ_=>⟨m,C,by simp;omega,λi x q h1 h2=>(F0 i x q h1 h2).mono S⟩⟩,iM (by show kh 7=true;decide) (fJ (by omega)) eO eO eO eO eO (by simp[fd]) (by have:=L.2.2.2.2;simp;omega) (by simp;omega) F1⟩,by simp,by omega,by omega,by omega⟩
  ·unfold oM;simp only[eZ,decide_eq_true_eq];omega
  ·rw[Me,eZ,eG E6];rfl
 ·have Q:fF (nd 6 a 0 [] [] l .nil ce)=fF l+1:=by rw[gR,kD,fS]
  obtain⟨⟨B,C,D⟩,hk⟩:=CA o;subst hk;have k:=gi l;have j:=fG N;obtain⟨p,w1,d,D4⟩:=g l _ N (by omega) ns pend w B C u (v.part (by omega) (by omega) (by omega));have D5:=D4.ks;have D6:=D4.kt;have D7:=D4.kl;have B7:=iJ w1;have E4:w1.ts[p]?=some 1:=by rw[<-D];exact D4.ty
  refine⟨{fd with code:=9,a:=(p:Int)},w1,G (by unfold oM;simp[mf]) (by rw[Mg,eG d];rfl),D4.gd,λts W S Y Z=>⟨lj (.inr (.inr (.inl rfl))) (by simp) (λ_=>eK Y) (λ_=>eK (eN S E4)) (by simp) (by simp) (by simp),iM (by show kh 9=true;decide) (fJ (by omega)) (m_ E4 (by omega)) eO eO eO eO (by simp[fd]) (by simp[fd]) (by simp[fd]) rfl⟩,by simp,by omega,by omega,by omega⟩
 ·have Q:fF (nd 7 a 0 [] [] l .nil ce)=fF l+1:=by rw[gR,kD,fS]
  obtain⟨⟨B,C,D⟩,hk⟩:=CB o;subst hk;have k:=gi l;have j:=fG N;obtain⟨p,w1,d,D4⟩:=g l _ N (by omega) ns pend w B C u (v.part (by omega) (by omega) (by omega));have D5:=D4.ks;have D6:=D4.kt;have D7:=D4.kl;have B7:=iJ w1;have E4:w1.ts[p]?=some 2:=by rw[<-D];exact D4.ty
  refine⟨{fd with code:=10,a:=(p:Int)},w1,G (by unfold oM;simp[mf]) (by rw[Mh,eG d];rfl),D4.gd,λts W S Y Z=>⟨lj (by simp) (λ_=>eK Y) (by simp) (by simp) (λ_=>eK (eN S E4)) (by simp) (by simp),iM (by show kh 10=true;decide) (fJ (by omega)) (m_ E4 (by omega)) eO eO eO eO (by simp[fd]) (by simp[fd]) (by simp[fd]) rfl⟩,by simp,by omega,by omega,by omega⟩
 ·have Q:fF (nd 8 a 0 [] [] l r ce)=fF l+fF r+1:=by rw[gR,kD];first|done|omega
  obtain⟨⟨B,C,D⟩,⟨f,H,I⟩,hk⟩:=zk o;subst hk;have j:=fG N;have A:=fG O;have k:=gi l;have T:=gi r;obtain⟨p,w1,d,D4⟩:=g l _ N (by omega) ns pend w B C u (v.part (by omega) (by omega) (by omega));have D5:=D4.ks;have D6:=D4.kt;have D7:=D4.kl;obtain⟨q,A8,D8,D9⟩:=g r _ O (by omega) ns pend w1 f H D4.gd ⟨by omega,by omega,by omega⟩;have E0:=D9.ks;have E1:=D9.kt;have E2:=D9.kl;have E3:=(c.V _ _ _ _ D8).1.ex.ts;have B7:=iJ A8;have E4:A8.ts[p]?=some 2:=by rw[<-D];exact eN E3 D4.ty
  have E5:A8.ts[q]?=some 1:=by rw[<-I];exact D9.ty
  refine⟨{fd with code:=11,a:=(p:Int),b:=(q:Int)},A8,G (by unfold oM;simp[mf]) (by rw[Mi,eG d,eG D8];rfl),D9.gd,λts W S Y Z=>⟨lj (by simp) (λ_=>eK Y) (by simp) (by simp) (λ_=>eK (eN S E4)) (λ_=>eK (eN S E5)) (by simp),iM (by show kh 11=true;decide) (fJ (by omega)) (m_ E4 (by omega)) (m_ E5 (by omega)) eO eO eO (by simp[fd]) (by simp[fd]) (by simp[fd]) rfl⟩,by simp,by omega,by omega,by omega⟩
 ·have hk:=Je (.inr o);subst hk;have Q:fF (nd 9 a 0 [] [] .nil .nil ce)=1:=by rw[gR,fS,kD]
  exact⟨_,w,G rfl (by rw[Mj];first|done|rfl),u,λts p S h1 h2=>⟨lj (by simp) (λ_=>eK h1) (by simp) (by simp) (by simp) (by simp) (by simp),iM (by show kh 14=true;decide) (fJ (by omega)) eO eO eO eO eO (by simp[fd]) (by simp[fd]) (by simp[fd]) rfl⟩,by simp,by rw[Q];omega,by rw[Q];omega,by omega⟩
end
section
variable {lk : By → Option Nm}
theorem mZ{ns:Nm}{pend:List Int}{w w1:Wr}(a:Gd lk ns pend w)(b:SX w w1)(h:Gd lk ns pend w1):lB w.u1 w.u2 w1=some ((),{w1 with u1:=w.u1,u2:=w.u2})/\Gd lk ns pend {w1 with u1:=w.u1,u2:=w.u2}:=
 Al h (by have:=a.u1;have:=b.ex.p1.length_le;omega) (by have:=a.u2;have:=b.ex.p2.length_le;omega)
theorem Nf{p e:Nat}(b:p<=100000)(c:e<=100000):yc {fd with code:=5,a:=(p:Int),label:=(e:Int)}=true:=iM (by show kh 5=true;decide) eO (fJ b) eO eO eO (fJ c) (by simp[fd]) (by simp[fd]) (by simp[fd]) rfl
theorem Lv{ts:List Int}{p:Nat}{e:Int}(h:ts[p]?=some 1):DT lk ts {fd with code:=5,a:=(p:Int),label:=e}:=
 ⟨by simp,by simp,by simp,by simp,λ_=>eK h,by simp,by simp,by simp,by simp,by simp⟩
theorem Qg{F:Lf}(z:iR F){t:Tr}{ex dx:Nat}(hR:RE ex dx t)(hw:uu t)(hV:jv t=0->CV lk F.V t)(S:∀x e O,RE e O x->fF x<fF t->fF x+jv t<fF t->CU lk 2 F.U x)(Y:∀x e O,RE e O x->fF x<fF t->fF x+jv t<fF t->CU lk 1 F.W x):CU lk 2 (tq F) t:=by
 intro ns pend w e j y i G;have hp:=fG hR;have A3:=iJ w;have r1:=G.s;have r2:=G.t;have r3:=G.l;have A0:=i.le _ (bJ _ y);cases hw using uu.cs with
 |no a n nm l r xs A D m q=>
  subst m;have Z:fF l+1<=fF (nd 4 a n nm [33] l r xs):=by rw[gR];omega
  have b:jv (nd 4 a n nm [33] l r xs)=0:=by rw[nP,if_neg (by simp)]
  have tl:=gi l;obtain⟨⟨k1,C,rfl⟩,-⟩:=uj j;obtain⟨w1,f,d⟩:=Y l A D q (by omega) (by omega) ns pend w e C y i (G.part (by omega) (by omega) (by omega));have B:=d.ks;have I:=d.kt;have K:=d.kl;obtain⟨o,v⟩:=mZ i (z.W _ _ _ _ f).1 d.gd;refine⟨_,?_,v,?_,?_,?_⟩
  ·rw[nL,if_pos ⟨rfl,rfl⟩,eG f,o]
  ·show w1.ss.length+2+(6-2)*jv _<=_;rw[b];omega
  ·show tz w1+2*jv _<=_;rw[b];omega
  ·show w1.lb+jv _<=_;rw[b];omega
 |an a n nm l r xs A D T L m q g=>
  subst m;have Z:fF l+fF r+1<=fF (nd 3 a n nm [38,38] l r xs):=by rw[gR];omega
  have b:jv (nd 3 a n nm [38,38] l r xs)=1:=by rw[nP,if_pos ⟨rfl,.inl rfl⟩]
  have tl:=gi l;have tr:=gi r;have M:=fG q;have Q:=fG g;obtain⟨⟨k1,C,rfl⟩,⟨k2,J,rfl⟩,-⟩:=oT j;obtain⟨w1,f,d⟩:=S l A D q (by omega) (by omega) ns pend w e C y i (G.part (by omega) (by omega) (by omega));have B:=d.ks;have I:=d.kt;have K:=d.kl;obtain⟨w2,E,k⟩:=S r T L g (by omega) (by omega) ns pend w1 e J y d.gd ⟨by omega,by omega,by omega⟩;have s4:=k.ks;have s5:=k.kt;have s6:=k.kl;obtain⟨o,v⟩:=mZ i ((z.U _ _ _ _ f).1.trans (z.U _ _ _ _ E).1) k.gd;refine⟨_,?_,v,?_,?_,?_⟩
  ·rw[nL,if_neg (by simp),if_pos ⟨rfl,rfl⟩,eG (a:=()) (w1:=w2) (by rw[eG f,E]),o]
  ·show w2.ss.length+2+(6-2)*jv _<=_;rw[b];omega
  ·show tz w2+2*jv _<=_;rw[b];omega
  ·show w2.lb+jv _<=_;rw[b];omega
 |or a n nm l r xs A D T L m q g=>
  subst m;have Z:fF l+fF r+1<=fF (nd 3 a n nm [124,124] l r xs):=by rw[gR];omega
  have b:jv (nd 3 a n nm [124,124] l r xs)=1:=by rw[nP,if_pos ⟨rfl,.inr rfl⟩]
  have tl:=gi l;have tr:=gi r;have M:=fG q;have Q:=fG g;obtain⟨⟨k1,C,rfl⟩,⟨k2,J,rfl⟩,-⟩:=oT j;obtain⟨on,w0,l1,l2,l3,l4,l5⟩:=mW i (by omega);obtain⟨y1,-,-,-,-,y6⟩:=fY l1;obtain⟨w1,f,d⟩:=Y l A D q (by omega) (by omega) ns _ w0 on C (cy ..) l2 ⟨by rw[y6];omega,by omega,by omega⟩;have B:=d.ks;have I:=d.kt;have K:=d.kl;rw[y6]at B;obtain⟨w2,E,k⟩:=S r T L g (by omega) (by omega) ns _ w1 e J (b9 _ y) d.gd ⟨by omega,by omega,by omega⟩;have s4:=k.ks;have s5:=k.kt;have s6:=k.kl;obtain⟨u,v1,v2,N⟩:=rJ k.gd (by omega) (by omega);have P:u.ss.length=w2.ss.length+1:=by rw[N];simp
  have t3:tz u=tz w2:=by rw[N];rfl
  have A4:u.lb=w2.lb:=by rw[N]
  have H:=v1;unfold jt at H;obtain⟨o,v⟩:=mZ i (((y1.trans (z.W _ _ _ _ f).1).trans (z.U _ _ _ _ E).1).trans (fM H (by simp)).2.1) v2;refine⟨_,?_,v,?_,?_,?_⟩
  ·rw[nL,if_neg (by simp),if_neg (by simp),if_pos ⟨rfl,rfl⟩,eG (a:=()) (w1:=u) (by rw[eG l1,eG f,eG E,v1]),o]
  ·show u.ss.length+2+(6-2)*jv _<=_;rw[b];omega
  ·show tz u+2*jv _<=_;rw[b];omega
  ·show u.lb+jv _<=_;rw[b];omega
 |el c a n nm op l r xs m n1 n2 P=>
  subst m;have b:jv (nd c a n nm op l r xs)=0:=by
   rw[nP,if_neg];rintro⟨rfl,h|h⟩
   ·exact n2 ⟨rfl,h⟩
   ·exact P ⟨rfl,h⟩
  rw[b]at r1 r2 r3;obtain⟨p,w1,f,d⟩:=hV b ns pend w 1 j i ⟨by omega,by omega,by omega⟩;have B:=d.ks;have I:=d.kt;have K:=d.kl;rw[b]at B I;have A1:=iJ w1;have A2:=(aK.1 d.ty).1;obtain⟨a1,a2⟩:=mE d.gd (Lv d.ty) (Nf (by omega) (by omega)) (by simp) (λ_=>bJ _ y) (by omega);obtain⟨o,v⟩:=mZ i ((z.V _ _ _ _ f).1.trans (fM a1 (by simp)).2.1) a2;refine⟨_,?_,v,?_,?_,?_⟩
  ·rw[nL,if_neg n1,if_neg n2,if_neg P,eG (a:=()) (w1:={w1 with ss:=w1.ss++[{fd with code:=5,a:=(p:Int),label:=(e:Int)}]}) (by rw[eG f,a1]),o]
  ·show(w1.ss++[_]).length+2+(6-2)*jv _<=_;rw[b];simp;omega
  ·show tz w1+2*jv _<=_;rw[b];omega
  ·show w1.lb+jv _<=_;rw[b];omega
theorem Qh{F:Lf}(H:iR F){t:Tr}{ex dx:Nat}(hR:RE ex dx t)(hw:uu t)(hV:jv t=0->CV lk F.V t)(hU:∀x e dd,RE e dd x->fF x<fF t->fF x+jv t<fF t->CU lk 2 F.U x)(hW:∀x e dd,RE e dd x->fF x<fF t->fF x+jv t<fF t->CU lk 1 F.W x):CU lk 1 (tu F) t:=by
 intro ns pend w e o I k O;have hp:=fG hR;have A7:=iJ w;have r1:=O.s;have r2:=O.t;have r3:=O.l;have A5:(e:Int)<=(w.lb:Int):=k.le _ (bJ _ I);cases hw using uu.cs with
 |no a n nm l r xs J A D B=>
  subst D;have hz:fF l+1<=fF (nd 4 a n nm [33] l r xs):=by rw[gR];omega
  have d:jv (nd 4 a n nm [33] l r xs)=0:=by rw[nP,if_neg (by simp)]
  have tl:=gi l;obtain⟨⟨k1,u,rfl⟩,-⟩:=uj o;obtain⟨w1,i,f⟩:=hU l J A B (by omega) (by omega) ns pend w e u I k (O.part (by omega) (by omega) (by omega));have L:=f.ks;have Z:=f.kt;have s3:=f.kl;obtain⟨v,G⟩:=mZ k (H.U _ _ _ _ i).1 f.gd;refine⟨_,?_,G,?_,?_,?_⟩
  ·rw[nM,if_pos ⟨rfl,rfl⟩,eG i,v]
  ·show w1.ss.length+1+(6-1)*jv _<=_;rw[d];omega
  ·show tz w1+2*jv _<=_;rw[d];omega
  ·show w1.lb+jv _<=_;rw[d];omega
 |or a n nm l r xs J A e2 K D B g=>
  subst D;have hz:fF l+fF r+1<=fF (nd 3 a n nm [124,124] l r xs):=by rw[gR];omega
  have d:jv (nd 3 a n nm [124,124] l r xs)=1:=by rw[nP,if_pos ⟨rfl,.inr rfl⟩]
  have tl:=gi l;have tr:=gi r;have A2:=fG B;have A1:=fG g;obtain⟨⟨k1,u,rfl⟩,⟨k2,Q,rfl⟩,-⟩:=oT o;obtain⟨w1,i,f⟩:=hW l J A B (by omega) (by omega) ns pend w e u I k (O.part (by omega) (by omega) (by omega));have L:=f.ks;have Z:=f.kt;have s3:=f.kl;obtain⟨w2,Y,m⟩:=hW r e2 K g (by omega) (by omega) ns pend w1 e Q I f.gd ⟨by omega,by omega,by omega⟩;have s4:=m.ks;have s5:=m.kt;have s6:=m.kl;obtain⟨v,G⟩:=mZ k ((H.W _ _ _ _ i).1.trans (H.W _ _ _ _ Y).1) m.gd;refine⟨_,?_,G,?_,?_,?_⟩
  ·rw[nM,if_neg (by simp),if_pos ⟨rfl,rfl⟩,eG (a:=()) (w1:=w2) (by rw[eG i,Y]),v]
  ·show w2.ss.length+1+(6-1)*jv _<=_;rw[d];omega
  ·show tz w2+2*jv _<=_;rw[d];omega
  ·show w2.lb+jv _<=_;rw[d];omega
 |an a n nm l r xs J A e2 K D B g=>
  subst D;have hz:fF l+fF r+1<=fF (nd 3 a n nm [38,38] l r xs):=by rw[gR];omega
  have d:jv (nd 3 a n nm [38,38] l r xs)=1:=by rw[nP,if_pos ⟨rfl,.inl rfl⟩]
  have tl:=gi l;have tr:=gi r;have A2:=fG B;have A1:=fG g;obtain⟨⟨k1,u,rfl⟩,⟨k2,Q,rfl⟩,-⟩:=oT o;obtain⟨on,w0,l1,l2,l3,l4,l5⟩:=mW k (by omega);obtain⟨M,-,-,-,-,y6⟩:=fY l1;obtain⟨w1,i,f⟩:=hU l J A B (by omega) (by omega) ns _ w0 on u (cy ..) l2 ⟨by rw[y6];omega,by omega,by omega⟩;have L:=f.ks;have Z:=f.kt;have s3:=f.kl;rw[y6]at L;obtain⟨w2,Y,m⟩:=hW r e2 K g (by omega) (by omega) ns _ w1 e Q (b9 _ I) f.gd ⟨by omega,by omega,by omega⟩;have s4:=m.ks;have s5:=m.kt;have s6:=m.kl;obtain⟨j,v1,v2,v3⟩:=rJ m.gd (by omega) (by omega);have n3:j.ss.length=w2.ss.length+1:=by rw[v3];simp
  have t3:tz j=tz w2:=by rw[v3];rfl
  have A4:j.lb=w2.lb:=by rw[v3]
  have P:=v1;unfold jt at P;obtain⟨v,G⟩:=mZ k (((M.trans (H.U _ _ _ _ i).1).trans (H.W _ _ _ _ Y).1).trans (fM P (by simp)).2.1) v2;refine⟨_,?_,G,?_,?_,?_⟩
  ·rw[nM,if_neg (by simp),if_neg (by simp),if_pos ⟨rfl,rfl⟩,eG (a:=()) (w1:=j) (by rw[eG l1,eG i,eG Y,v1]),v]
  ·show j.ss.length+1+(6-1)*jv _<=_;rw[d];omega
  ·show tz j+2*jv _<=_;rw[d];omega
  ·show j.lb+jv _<=_;rw[d];omega
 |el c a n nm op l r xs D n1 n2 n3=>
  subst D;have d:jv (nd c a n nm op l r xs)=0:=by
   rw[nP,if_neg];rintro⟨rfl,h|h⟩
   ·exact n2 ⟨rfl,h⟩
   ·exact n3 ⟨rfl,h⟩
  rw[d]at r1 r2 r3;obtain⟨p,w1,i,f⟩:=hV d ns pend w 1 o k ⟨by omega,by omega,by omega⟩;have L:=f.ks;have Z:=f.kt;have s3:=f.kl;rw[d]at L Z;have S:=(H.V _ _ _ _ i).1;obtain⟨v,G⟩:=mZ k S f.gd;obtain⟨q,j,t1,t2,t3,t4,t5⟩:=wy G (by show tz w1<_;omega);have A3:tz j<=tz w1+1:=t4;have A8:j.lb=w1.lb:=t5;obtain⟨x1,-,-,-,x5⟩:=mK t1;have A0:j.ss=w1.ss:=x5;obtain⟨z,y,z1,z2,z3,z4,z5⟩:=Ak t2 (by omega);obtain⟨M,-,-,-,y5⟩:=nR z1;have C:y.ss=w1.ss:=y5.trans A0;have A6:=iJ y;have N:y.ts[p]?=some 1:=eN M.ex.ts (eN x1.ex.ts f.ty);have E:y.ts[q]?=some 1:=eN M.ex.ts t3;have pl:=(aK.1 N).1;have ql:=(aK.1 E).1;have zl:=(aK.1 z3).1;obtain⟨a1,a2⟩:=mE z2 (s:={fd with code:=3,op:=[61,61],dst:=(q:Int),a:=(p:Int),b:=(z:Int)}) (lj (by simp) (λ_=>eK E) (by simp) (λ_=>eK N) (by simp) (λ_=>eK z3) (λ_=>by simp)) (iM (by show kh 3=true;decide) (fJ (by omega)) (fJ (by omega)) (fJ (by omega)) eO eO eO (by simp) (by simp[fd]) (by simp[fd]) rfl) (by simp) (by simp) (by rw[C];omega);obtain⟨u,Q⟩:=mE a2 (s:={fd with code:=5,a:=(q:Int),label:=(e:Int)}) (Lv E) (Nf (by omega) (by omega)) (by simp) (λ_=>bJ _ I) (by show(y.ss++[_]).length<_;rw[C];simp;omega);have T:=((((S.trans (iE v).1).trans x1).trans M).trans (fM a1 (by simp)).2.1).trans (fM u (by simp)).2.1;obtain⟨A,K⟩:=mZ k T Q;refine⟨_,?_,K,?_,?_,?_⟩
  ·rw[nM,if_neg n1,if_neg n3,if_neg n2];refine(eG (a:=()) ?_).trans A;rw[eG i,eG v,eG t1,eG z1,eG a1,u]
  ·show(y.ss++[_]++[_]).length+1+(6-1)*jv _<=_;rw[d,C];simp;omega
  ·show tz y+2*jv _<=_;rw[d];omega
  ·show y.lb+jv _<=_;rw[d];omega
theorem Ib:∀gl:Nat,(∀t e a,RE e a t->4*fF t<=gl->CV lk (mm gl).V t)/\(∀t e a,RE e a t->4*fF t<=gl+1->CL lk (mm gl).L t)/\(∀t e a,RE e a t->4*fF t+1<=gl+3*jv t->CU lk 2 (mm gl).U t)/\(∀t e a,RE e a t->4*fF t+1<=gl+3*jv t->CU lk 1 (mm gl).W t)
 |0=>⟨λt e a h b=>by have:=fG h;omega,λt e a h b=>by have:=fG h;omega,λt e a h b=>by have:=fG h;have:=gi t;omega,λt e a h b=>by have:=fG h;have:=gi t;omega⟩
 |gl+1=>by
  obtain⟨c,d,f,g⟩:=Ib gl;have i:=ru gl;refine⟨λt e a h b=>NS i h (d t e a h (by omega)),λt e a h b=>?_,λt e a h b=>?_,λt e a h b=>?_⟩
  ·cases e with
   |zero=>exact h.elim
   |succ e=>exact Ny i h (λx j k l=>c x _ _ k (by omega)) (λm=>f t _ _ h (by omega))
  ·have h1:=gi t;exact Qg i h (vn h) (λn=>c t _ _ h (by omega)) (λx o j k h2 p=>f x o j k (by have:=gi x;omega)) (λx o j k h2 p=>g x o j k (by have:=gi x;omega))
  ·have h1:=gi t;exact Qh i h (vn h) (λn=>c t _ _ h (by omega)) (λx o j k h2 p=>f x o j k (by have:=gi x;omega)) (λx o j k h2 p=>g x o j k (by have:=gi x;omega))
end
end Go.Proofs.YtnfhpdbbfejioaaGreatDoor.Mid.Sf
