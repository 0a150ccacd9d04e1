/- PD PM PE SQ PF SR ST VX SV -/
import Derived.Test.YtnfhpdbbfejioaaGreatDoorJ09
import Derived.Test.YtnfhpdbbfejioaaGreatDoorJ21
set_option linter.unusedVariables false
set_option linter.unusedSimpArgs false
set_option maxRecDepth 100000
set_option maxHeartbeats 16000000
namespace Go.Proofs.YtnfhpdbbfejioaaGreatDoor.Mid
open Go Go.RowKit
variable {w w' wr:jW}{fb n i:Nat}{a c:jU}{m:Mf}
def MS:Tr->Nm
 | .slice [.agg [.lit (.string nm),.lit (.int _ t)]] [g]=>(nm,t)::MS g
 |_=>[]
def Cf:Tr->List eR
 | .slice [.agg [.lit (.string nm),.lit (.int k a),c,b]] [g]=>⟨nm,k,a,MS c,b⟩::Cf g
 |_=>[]
def Ld:Except (Int×Nat) Tr->Tr
 | .ok t=>t
 |_=> .nil
theorem yI(w:jW)(a b:jU)(l:List Int)(h1:oW w a l)(h2:oW w b l)(f:l.length<=100000):
  aA 13 #[a,b] w λe w'=>e=jR (.bool true)/\az w w':=by
 obtain⟨p,c,rfl,h1⟩:=h1;obtain⟨q,d,rfl,h2⟩:=h2;obtain⟨n,h⟩:=aB l.length;have k:Hid (∀j,j<n->∃g o,p=some (jB g o)/\g<w.heap.size/\∀j,j<n->w.cell? (jB g (o+j))=some (jV (l.getD j 0))):=λj m=>by
  rcases h1 with rfl|⟨g,o,e,r,_,s⟩
  ·simp at h;omega
  ·exact⟨g,o,e,r,λj m=>s j _ (by rw[aI (by omega)];simp[aU,aI (show j<l.length by omega)])⟩
 have t:Hid (∀j,j<n->∃g o,q=some (jB g o)/\g<w.heap.size/\∀j,j<n->w.cell? (jB g (o+j))=some (jV (l.getD j 0))):=λj m=>by
  rcases h2 with rfl|⟨g,o,e,r,_,s⟩
  ·simp at h;omega
  ·exact⟨g,o,e,r,λj m=>s j _ (by rw[aI (by omega)];simp[aU,aI (show j<l.length by omega)])⟩
 have u:n<=100000:=by omega
 rw[<-h];clear h1 h2 h f;go_enter Tryz.func13,Tryz.ntmps13;go_wp2
 go_loopw [13] (λi wr=>∃j:Nat,j<=n/\i=jV j/\Hid (az w wr)) (λi _=>n-(intOf i).toNat)
 case atStart=>exact⟨0,aQ _,rfl,aJ _ _⟩
 case round=>
  obtain⟨j,m,rfl,v⟩:=hrel;by_cases y:j<n
  ·obtain⟨g,o,rfl,r,hc⟩:=k j y;obtain⟨g',z,rfl,A,B⟩:=t j y;have C:wr.cell? (jB g (o+j))=some (jV (l.getD j 0)):=by rw[v.out.cell (p:=(jB g (o+j))) r];exact hc j y
   have D:wr.cell? (jB g' (z+j))=some (jV (l.getD j 0)):=by rw[v.out.cell (p:=(jB g' (z+j))) A];exact B j y
   generalize l.getD j 0=x at*;clear hc B;go_wp2;go_region;go_wp2;exact⟨⟨j+1,by omega,by go_num,v.out.drew⟩,by simp[intOf];omega⟩
  ·have e:j=n:=by omega
   subst e;go_wp2;go_ret;exact⟨rfl,v.out⟩
def Cb(w:jW)(fb:Nat)(a b:jU)(m:Mf):Prop:=∃R P c d e s',Wc R w P c a b d e s'/\fb<P-1/\m.types=s'.ts/\m.steps=s'.ss
theorem Cb.on(h:Cb w fb a c m)(d:az w w'):Cb w' fb a c m:=by
 obtain⟨R,P,e,f,g,s',h,h1⟩:=h;exact⟨R,P,e,f,g,s',h.on (λb i=>d.block b i) (d.mono (by have:=h.ltP;omega)),h1⟩
theorem Cb.set{d:Array Value}(h:Cb w fb a c m)(f:w.heap[fb]?=some (.cells d 103))(hk:∀b,b≠fb->w'.heap[b]?=w.heap[b]?)(g:w.heap.size<=w'.heap.size):Cb w' fb a c m:=by
 obtain⟨R,P,i,j,k,s',h,h1,h2⟩:=h;have l:R fb=0:=by
  rcases b8 (R fb) with e|e
  ·exact e
  ·have:=h.lo fb (by omega);omega
 exact⟨R,P,i,j,k,s',h.other f (by decide) l hk g,h1,h2⟩
theorem Cb.fnv{b:jU}(h:Cb w fb a b m):Sx w a b m:=by
 obtain⟨R,P,c,d,e,s',h,h1,h2,f⟩:=h;obtain⟨nm,n,ts,g⟩:=m;dsimp only at h2 f;subst h2 f;exact h.fnv nm n
abbrev uS(W:jW)(g o:Nat)(a b c d:jU):jW:=(((W.setCell (jB g o) a).setCell (jB g (o+1)) b).setCell (jB g (o+2)) c).setCell (jB g (o+3)) d
theorem Aa(W:jW)(g o:Nat)(t:TypeId)(a:Array Value)(b c d e:jU)(h:W.heap[g]?=some (.cells a t)):(uS W g o b c d e).heap[g]?=some (jC ((((a.setIfInBounds o b).setIfInBounds (o+1) c).setIfInBounds (o+2) d).setIfInBounds (o+3) e) t):=by
 have f:=aH W g o _ t b h;have h1:=aH _ g (o+1) _ t c f;have h2:=aH _ g (o+2) _ t d h1;exact aH _ g (o+3) _ t e h2
theorem yB(W:jW)(g o:Nat)(a c d e:jU)(b:Nat)(f:b≠g):(uS W g o a c d e).heap[b]?=W.heap[b]?:=by
 rw[aG _ _ _ _ f,aG _ _ _ _ f,aG _ _ _ _ f,aG _ _ _ _ f]
theorem ko(W:jW)(g o:Nat)(a c d f:jU)(b i:Nat)(h:¬b=g):(uS W g o a c d f).cell? (jB b i)=W.cell? (jB b i):=by
 rw[World.cell?_setCell_far _ _ _ _ (λe=>h e.symm),World.cell?_setCell_far _ _ _ _ (λe=>h e.symm),World.cell?_setCell_far _ _ _ _ (λe=>h e.symm),World.cell?_setCell_far _ _ _ _ (λe=>h e.symm)]
def IK(a:jW)(fb n:Nat)(b:List Mf)(i:Nat)(wr:jW):Prop:=
 ∃c,wr.heap[fb]?=some (.cells c 103)/\c.size=n*4/\(∀(j:Nat)(m:Mf),j<i->b[j]?=some m->∃d e,c[j*4]?=some (jT ⟨m.name.toArray⟩)/\c[j*4+1]?=some (jV m.params)/\c[j*4+2]?=some d/\c[j*4+3]?=some e/\Cb wr fb d e m)/\Below fb a wr/\wr.heap[fb+1]?=some (jC #[jL (some (jA fb)) n n] 53)
theorem IK.on{a:jW}{b:List Mf}(h:IK a fb n b i wr)(c:az wr w'):IK a fb n b i w':=by
 obtain⟨d,h1,h2,e,f,g⟩:=h;refine⟨d,(c.block fb (aC.1 h1).1).trans h1,h2,λj m k l=>?_,f.trans (c.mono (aL (aC.1 h1).1)),(c.block _ (aC.1 g).1).trans g⟩;obtain⟨o,p,q,r,s,t,u⟩:=e j m k l;exact⟨o,p,q,r,s,t,u.on c⟩
theorem KY{a:jW}{b:List Mf}(h:IK a fb n b i wr)(c:i<n)(d:b[i]?=some m){f g:jU}(l:Cb wr fb f g m):
  ((∃o q r s,wr.cell? (jB fb (i*4))=some o/\wr.cell? (jB fb (i*4+1))=some q/\wr.cell? (jB fb (i*4+2))=some r/\wr.cell? (jB fb (i*4+3))=some s)/\∀k,wr.frozen? (jB fb k)=false)/\
  IK a fb n b (i+1) (uS wr fb (i*4) (jT ⟨m.name.toArray⟩) (jV m.params) f g):=by
 obtain⟨t,h1,h2,u,v,w⟩:=h;have hk:=yB wr fb (i*4) (jT ⟨m.name.toArray⟩) (jV m.params) f g;have x:wr.heap.size<=(uS wr fb (i*4) (jT ⟨m.name.toArray⟩) (jV m.params) f g).heap.size:=by simp
 refine⟨⟨⟨_,_,_,_,eo h1 (bY (by omega)),eo h1 (bY (by omega)),eo h1 (bY (by omega)),eo h1 (bY (by omega))⟩,λk=>ea h1 k⟩,((((t.setIfInBounds (i*4) (jT ⟨m.name.toArray⟩)).setIfInBounds (i*4+1) (jV m.params)).setIfInBounds (i*4+2) f).setIfInBounds (i*4+3) g),Aa wr fb (i*4) 103 t _ _ _ _ h1,by simp[h2],λj y z A=>?_,(((v.setCell (p:=(jB fb (i*4))) (aD _) _).setCell (p:=(jB fb (i*4+1))) (aD _) _).setCell (p:=(jB fb (i*4+2))) (aD _) _).setCell (p:=(jB fb (i*4+3))) (aD _) _,(hk (fb+1) (by omega)).trans w⟩;by_cases B:j=i
 ·subst B;rw[d]at A;injection A with e;subst e;refine⟨f,g,?_,?_,?_,?_,l.set h1 hk x⟩
  ·rw[bc (by omega),bc (by omega),bc (by omega),bR (by omega)]
  ·rw[bc (by omega),bc (by omega),bR (by simp;omega)]
  ·rw[bc (by omega),bR (by simp;omega)]
  ·rw[bR (by simp;omega)]
 ·obtain⟨C,D,E,F,G,H,I⟩:=u j y (by omega) A;refine⟨C,D,?_,?_,?_,?_,I.set h1 hk x⟩
  all_goals
   rw[bc (by omega),bc (by omega),bc (by omega),bc (by omega)]
   assumption
theorem PB{a:jW}{ms:List Mf}(h:IK a fb n ms n wr)(d:ms.length=n)(e:n<=1000000)(f:∀m∈ms,qN m.params/\m.name.length<=9223372036854775807)(hk:∀b:Nat,w'.heap[b]?=wr.heap[b]?)(g:wr.heap.size<=w'.heap.size):gN w' (fb+1) (some (jA fb)) n ms:=by
 obtain⟨k,h1,h2,l,o,p⟩:=h;refine⟨eo (i:=0) ((hk _).trans p) (by rw[d];rfl),⟨by omega,by omega⟩,.inr ⟨fb,0,rfl,λj F r=>?_⟩⟩;have s:=(aK.1 r).1;obtain⟨t,u,v,w,x,y,z⟩:=l j F (by omega) r;obtain⟨A,⟨q,c,B,C,D⟩,E⟩:=(z.set h1 (λb _=>hk b) g).fnv;obtain⟨G,H⟩:=f F (aM r);rw[bQ];subst B;have I:=(hk fb).trans h1;exact⟨eo I v,eo I w,⟨t,eo I x,A⟩,⟨q,c,eo I y,C,D⟩,G,H,E⟩
theorem KZ:(Tryz.prog.info? 103).map (λi=>(i.zero,i.size,i.bytes))=some (some (.agg #[jT ⟨#[]⟩,jV 0,jS,jS]),4,72):=by kernel_rfl
theorem PC(n:Nat)(a:n<=1000)(w:jW):(Instr.makeSlice 50 (jV (n:Int)) (jV (n:Int))).run Tryz.prog w= .ok (jL (some (jA w.heap.size)) n n) (w.alloc (jC (madeCells #[jT ⟨#[]⟩,jV 0,jS,jS] (n*4)) 103)):=by
 obtain⟨i,b,c,d,e⟩:=info_parts KZ;have:=cQ w 50 103 i _ Tryz.underlying50 b c .i64 .i64 (n:Int) (n:Int) (by omega) (by omega) (by rw[d];simp;omega) (by rw[e];omega) (by omega);rw[d]at this;simp only[aR]at this;exact this
theorem Hd{W5:jW}{a:List Mf}(h:W5.heap[fb]?=some (jC (madeCells #[jT ⟨#[]⟩,jV 0,jS,jS] (n*4)) 103))(b:W5.heap[fb+1]?=some (jC #[jL (some (jA fb)) n n] 53)):IK W5 fb n a 0 W5:=
 ⟨_,h,by simp[madeCells],λj m c=>by omega,aJ _ _,b⟩
theorem yC(a b:Nat)(w:jW):CallsD Tryz.prog 42 #[ptr a,ptr b] .returning w λe c w'=>e=jR (.tuple #[])/\c= .returning/\w'=w:=by
 have h1:∀w:jW,(binOp .neq 20 .nilIface .nilIface).run Tryz.prog w= .ok (.bool false) w:=λw=>by kernel_rfl
 refine callsD_of_wpS Tryz.func42 rfl λd cs f=>?_;apply wpS_seq;apply wpS_region;simp[wpOpsS,go_sem,recoverD,f,Tryz.ntmps42,Exit.thenS,h1]
 refine wpS_cond (t:=false) (by simp[Act.eval,Array.replicate]) ?_;simp only[bI,if_false];refine wpS_of_wp (wp_skip ?_);cases d
 simp_all [bodyPostS,results,Tryz.results42,Exit.thenS]
theorem MQ(a:Array Value)(W:jW)(b c:Nat)(x y:jU)(d:a[2]?.getD undef=jP b)(e:a[3]?.getD undef=jP c)(h1:W.cell? (jA b)=some x)(h2:W.cell? (jA c)=some y):
  (results Tryz.f20 a).run Tryz.prog W= .ok (.tuple #[x,y]) W:=by
 simp[results,Tryz.results20,go_sem,d,e,h1,h2]
theorem tS(w:jW)(b:Nat)(v:jU)(t:TypeId)(h:w.heap[b]?=some (jC #[v] t))(k:Nat):(w.setCell (jA b) v).heap[k]?=w.heap[k]?:=by
 by_cases e:k=b
 ·subst e;rw[aH _ _ _ _ _ _ h,h];rfl
 ·exact aG _ _ _ _ e
def LwF(F:eR)(m:Mf):Prop:=∃u s',AB F.ps F.body=some (u,s')/\m=⟨F.nm,F.ps.length,s'.ts,s'.ss⟩
theorem uR(hF:FnC)(w:World)(v:Value)(l:List eR)(hl:ze (Lo w.heap.size) w v l)(A8:∀W,az w W->aA 16 #[v] W (Lq (.ok true) W))(K:List Mf)(A3:K.length=l.length)(B9:∀(i:Nat)(F:eR)(m:Mf),l[i]?=some F->K[i]?=some m->LwF F m)(D9:l.length<=12)(E1:∀m∈K,qN m.params/\m.name.length<=9223372036854775807)(C7:∀F∈l,F.nm.length<=1000000):aA 20 #[v] w λe w'=>∃cb q c,e= .returned (.tuple #[ptr cb,.nilIface])/\gN w' cb q c K/\az w w':=by
 have F7:∀(fn:Fn)(first A7:Array Value)(w:World),(Instr.makeFunc fn first A7).run Tryz.prog w= .ok (.func fn first A7) w:=λ_ _ _ _=>rfl;obtain⟨G1,d,E7⟩:=hl.row;obtain⟨q,c,rfl⟩:=eh d.1;obtain⟨n,hn⟩:=aB l.length;rw[<-hn]at A8⊢;obtain⟨W0,B⟩:=aB ((w.alloc (.cells #[.pointer none] 43)).alloc (.cells #[.nilIface] 34));have D3:W0.heap.size=w.heap.size+2:=by rw[B];simp
 have A6:az w W0:=by rw[B];exact((eL w _).trans ((eL _ _).mono (by simp)))
 have B8:W0.heap[w.heap.size]?=some (.cells #[.pointer none] 43):=by
  rw[B,ed (by simp)];exact heap_alloc_last _ _
 have C1:W0.heap[w.heap.size+1]?=some (.cells #[.nilIface] 34):=by
  rw[B];have:=heap_alloc_last (w.alloc (.cells #[.pointer none] 43)) (.cells #[.nilIface] 34);simpa using this
 have D4:=jI (A8 W0 A6);have HN:=jI hn;have C6:Hid (W0.heap[w.heap.size]?=some (.cells #[.pointer none] 43)/\W0.heap[w.heap.size+1]?=some (.cells #[.nilIface] 34)):=⟨B8,C1⟩;have H:Hid (W0.heap.size=w.heap.size+2/\az w W0):=⟨D3,A6⟩;have C5:Hid (ze (Lo w.heap.size) w (.slice q n c) l):=by rw[hn];exact hl
 obtain⟨E8,F6,D5⟩:=j3 B9 C7 E1;have B0:Hid (K.length=n):=by rw[hn];exact A3
 have F2:n<=12:=by omega
 obtain⟨G,hG⟩:∃G:Ending->World->Prop,G=λe w'=>∃cb q c,e= .returned (.tuple #[ptr cb,.nilIface])/\gN w' cb q c K/\az w w':=⟨_,rfl⟩;have HG:=jI hG;rw[<-hG];have F3:=PC n (by omega);clear A8 d E7 hl hn D3 A6 B8 C1 B9 C7 A3 D9 hG
 go_enter_defers Tryz.func20,Tryz.ntmps20
 go_wp2_with(go_at_call 16;fail)
 rw[<-B];clear B;refine D4.mono ?_;rintro e w1 ⟨⟨-,rfl⟩|⟨hx,-⟩|⟨k,a,b,hx,-⟩,A⟩
 rotate_left
 ·cases hx
 ·cases hx
 have F5:=jI A;obtain⟨Wa,s⟩:=aB ((w1.alloc (.cells (madeCells #[.string ⟨#[]⟩,.int .i64 0,.slice none 0 0,.slice none 0 0] (n*4)) 103)).alloc (.cells #[.slice (some ⟨w1.heap.size,0,none⟩) n n] 53));have C2:Wa.heap.size=w1.heap.size+2:=by rw[s];simp
 have V:az w1 Wa:=by rw[s];exact((eL w1 _).trans ((eL _ _).mono (by simp)))
 have B3:Wa.heap[w1.heap.size]?=some (.cells (madeCells #[.string ⟨#[]⟩,.int .i64 0,.slice none 0 0,.slice none 0 0] (n*4)) 103):=by
  rw[s,ed (by simp)];exact heap_alloc_last _ _
 have C8:Wa.heap[w1.heap.size+1]?=some (.cells #[.slice (some ⟨w1.heap.size,0,none⟩) n n] 53):=by
  rw[s];have:=heap_alloc_last (w1.alloc (.cells (madeCells #[.string ⟨#[]⟩,.int .i64 0,.slice none 0 0,.slice none 0 0] (n*4)) 103)) (.cells #[.slice (some ⟨w1.heap.size,0,none⟩) n n] 53);simpa using this
 have E0:w.heap.size+2<=w1.heap.size:=by have:=H.out.1;have:=A.size;omega
 have d:Wa.heap[w.heap.size]?=some (.cells #[.pointer none] 43):=by
  have:=H.out.1;exact((V.block _ (by omega)).trans (A.block _ (by omega))).trans C6.out.1
 have h:Wa.heap[w.heap.size+1]?=some (.cells #[.nilIface] 34):=by
  have:=H.out.1;exact((V.block _ (by omega)).trans (A.block _ (by omega))).trans C6.out.2
 have d0:=jc 0 d;have f0:=ea d 0;obtain⟨W5,x⟩:=aB (Wa.setCell ⟨w.heap.size,0,none⟩ (ptr (w1.heap.size+1)));obtain⟨fb,D⟩:=aB w1.heap.size;have A2:∀b,b≠w.heap.size->W5.heap[b]?=Wa.heap[b]?:=λb I=>by rw[x];exact aG _ _ _ _ I
 have C0:W5.heap.size=fb+2:=by rw[x,D];simp[C2]
 have C:W5.heap[w.heap.size]?=some (.cells #[ptr (fb+1)] 43):=by rw[x,D];exact aH _ _ _ _ _ _ d
 have D0:=(A2 _ (by omega)).trans h;have C4:W5.heap[fb]?=some (.cells (madeCells #[.string ⟨#[]⟩,.int .i64 0,.slice none 0 0,.slice none 0 0] (n*4)) 103):=by rw[D];exact(A2 _ (by omega)).trans B3
 have A4:W5.heap[fb+1]?=some (.cells #[.slice (some ⟨fb,0,none⟩) n n] 53):=by rw[D];exact(A2 _ (by omega)).trans C8
 have D1:az w W5:=by
  have h1:Below w.heap.size Wa W5:=by rw[x];exact(aJ _ _).setCell (p:=⟨w.heap.size,0,none⟩) (aD _) _
  exact((H.out.2.trans (A.mono (by have:=H.out.1;omega))).trans (V.mono (by omega))).trans h1
 have H5:Hid ((W5.heap[w.heap.size]?=some (.cells #[ptr (fb+1)] 43)/\W5.heap[w.heap.size+1]?=some (.cells #[.nilIface] 34)/\W5.heap[fb+1]?=some (.cells #[.slice (some ⟨fb,0,none⟩) n n] 53))/\W5.heap.size=fb+2/\w.heap.size+2<=fb/\az w W5):=⟨⟨C,D0,A4⟩,C0,by omega,D1⟩;have HS:Hid (IK W5 fb n K 0 W5):=Hd C4 A4;have B5:=s;rw[s]at d0 f0;have G2:∀w:World,(binOp .neq 34 .nilIface .nilIface).run Tryz.prog w= .ok (.bool false) w:=λw=>by kernel_rfl
 clear A D4 C2 V B3 C8 E0 d h A2 C0 C D0 C4 A4 D1 B5
 go_upto_region 7 with fail
 rw[<-s,<-x,<-D];clear s x D d0 f0
 go_loopw [20] (λv wr=>∃i:Nat,i<=n/\v= .int .i64 i/\Hid (IK W5 fb n K i wr)) (λv _=>n-(intOf v).toNat)
 case atStart=>exact⟨0,aQ _,rfl,HS⟩
 case round=>
  obtain⟨i,G0,rfl,HI⟩:=hrel;by_cases D6:i<n
  ·obtain⟨F,B1⟩:∃F,l[i]?=some F:=⟨l[i]'(by have:=HN.out;omega),aI (by have:=HN.out;omega)⟩;obtain⟨m,A9⟩:∃m,K[i]?=some m:=⟨K[i]'(by have:=B0.out;omega),aI (by have:=B0.out;omega)⟩;obtain⟨u,s',B7,Z⟩:=E8.out i F m B1 A9;obtain⟨E3,C9,-,-,B2,C⟩:=HI.out;have h5:=H5.out;have D2:=h5.2.2.2.trans (B2.mono (by omega));have C3:fb<wr.heap.size:=(aC.1 C9).1;have B6:=C5.kept (eu D2);obtain⟨cs1,h,B4⟩:=B6.row;have J:fy (Lo w.heap.size) wr 86 4 (.slice q n c) n cs1:=by rw[HN.out]at h⊢;exact h
   obtain⟨g,A7,e,-,-⟩:=J.1.form (by omega);injection e with e1 e2 e3;subst e1;clear e2 e3;obtain⟨vp,vb,nb,E6,r1,r2,r3,a0,a1,a2,a3⟩:=B4 i F B1;obtain⟨y,hy⟩:∃y:ByteArray,y=⟨F.nm.toArray⟩:=⟨_,rfl⟩;have hc:∀(j:Nat)(u:Value),cs1[i*4+j]?=some u->wr.cell? ⟨g,i*4+j,none⟩=some u:=λj u hu=>by
    have:=J.1.cells (g:=g) rfl (i*4+j) u hu;rw[kw]at this;exact this
   obtain⟨qp,cp,rfl⟩:=eh r1.1;obtain⟨qb,cb,rfl⟩:=eh r2.1;have q0:wr.cell? ⟨g,i*4,none⟩=some (.string y):=by rw[hy];exact hc 0 _ a0
   have q1:=hc 1 _ a1;have q2:=hc 2 _ a2;have q3:=hc 3 _ a3;obtain⟨o,E⟩:=aB (wr.alloc (.cells #[.string y,.int .i64 F.at',.slice qp F.ps.length cp,.slice qb nb cb] 86));obtain⟨b,I⟩:=aB wr.heap.size;have M:az wr o.drew:=by rw[E];exact(eL wr _).trans (eH _ _)
   have F0:o.drew.heap.size=b+1:=by rw[I];show o.heap.size=_;rw[E];simp
   have z:o.drew.heap[b]?=some (.cells #[.string y,.int .i64 F.at',.slice qp F.ps.length cp,.slice qb nb cb] 86):=by rw[I,mr,E];exact heap_alloc_last _ _
   have N:∀k,Lo w.heap.size k->k<o.drew.heap.size->Lo o.drew.heap.size k:=λk _ hk=>hk;have A1:eJ (Lo w.heap.size) wr o.drew:=λk ds t F9 _ hk=>by rw[M.block k (aC.1 hk).1];exact hk
   have A5:Hid (aA 43 #[.agg #[.string y,.int .i64 F.at',.slice qp F.ps.length cp,.slice qb nb cb]] o.drew (QH F.nm F.ps.length s' o.drew)):=by
    rw[hy];exact hF o.drew F.nm F.at' _ _ nb F.ps F.body E6 ((r1.kept A1 (by decide)).mono N) ((r2.kept A1 (by decide)).mono N) (ey.mono N _ _ (ey.kept A1 _ _ r3)) u s' B7
   have Y:=(M.block _ (by omega)).trans ((B2.block _ (by omega)).trans h5.1.1);have A0:o.drew.heap[fb+1]?=some (.cells #[.slice (some ⟨fb,0,none⟩) n n] 53):=(M.block _ (aC.1 C).1).trans C;have g0:o.drew.cell? ⟨w.heap.size,0,none⟩=some (ptr (fb+1)):=jc 0 Y;have g1:o.drew.cell? ⟨fb+1,0,none⟩=some (.slice (some ⟨fb,0,none⟩) n n):=jc 0 A0;have z0:o.drew.cell? ⟨b,0,none⟩=some (.string y):=jc 0 z;have z1:o.drew.cell? ⟨b,1,none⟩=some (.int .i64 F.at'):=jc 1 z;have z2:o.drew.cell? ⟨b,2,none⟩=some (.slice qp F.ps.length cp):=jc 2 z;have z3:o.drew.cell? ⟨b,3,none⟩=some (.slice qb nb cb):=jc 3 z;have F1:¬w.heap.size=fb:=by omega
   have E4:¬fb+1=fb:=by omega
   have U:¬b=fb:=by omega
   have HU:Hid (∀e r,QH F.nm F.ps.length s' o.drew e r->∃qt nt ct qv nv cv,e= .returned (.agg #[.string y,.int .i64 (F.ps.length:Int),.slice qt nt ct,.slice qv nv cv])/\(r.cell? ⟨w.heap.size,0,none⟩=some (ptr (fb+1))/\r.cell? ⟨fb+1,0,none⟩=some (.slice (some ⟨fb,0,none⟩) n n)/\r.cell? ⟨b,0,none⟩=some (.string y)/\r.cell? ⟨b,1,none⟩=some (.int .i64 F.at')/\r.cell? ⟨b,2,none⟩=some (.slice qp F.ps.length cp)/\r.cell? ⟨b,3,none⟩=some (.slice qb nb cb))/\((∃x0 x1 x2 x3,r.cell? ⟨fb,i*4,none⟩=some x0/\r.cell? ⟨fb,i*4+1,none⟩=some x1/\r.cell? ⟨fb,i*4+2,none⟩=some x2/\r.cell? ⟨fb,i*4+3,none⟩=some x3)/\∀k,r.frozen? ⟨fb,k,none⟩=false)/\Hid (IK W5 fb n K (i+1) (uS r fb (i*4) (.string y) (.int .i64 (F.ps.length:Int)) (.slice qt nt ct) (.slice qv nv cv)))):=λe r T=>by
    obtain⟨tv,sv,rfl,⟨R,P,mb,v1,v2,hw,F8⟩,S⟩:=T;have E9:=(HI.on M).on S;have Q:=(S.block b (by omega)).trans z;have E2:=(S.block _ (aC.1 Y).1).trans Y;have D7:=(S.block _ (aC.1 A0).1).trans A0;have D8:Cb r fb tv sv m:=⟨R,P,mb,v1,v2,s',hw,by omega,by rw[Z],by rw[Z]⟩;obtain⟨k1,k2⟩:=KY E9 D6 A9 D8;obtain⟨qt,ct,rfl⟩:=eh hw.t;obtain⟨F4,x1,x2,x3⟩:=hw.st;obtain⟨qv,cv,rfl⟩:=eh x2;rw[Z]at k2;refine⟨qt,_,ct,qv,_,cv,by rw[hy],⟨jc 0 E2,jc 0 D7,jc 0 Q,jc 1 Q,jc 2 Q,jc 3 Q⟩,k1,?_⟩;rw[hy];exact k2
   generalize F.at'=aF at*;generalize F.ps.length=np at*;clear B1 A9 B7 Z C9 B2 C h5 D2 C3 B6 h B4 J r1 r2 r3 a0 a1 a2 a3 hc M F0 z N A1 Y A0 hy C5
   go_upto_region 9 with fail
   rw[<-E,<-I];clear E I q0 q1 q2 q3
   go_region_held3(λw'=>w'.cell? ⟨w.heap.size,0,none⟩=some (ptr (fb+1))/\w'.cell? ⟨fb+1,0,none⟩=some (.slice (some ⟨fb,0,none⟩) n n)/\w'.cell? ⟨b,0,none⟩=some (.string y)/\w'.cell? ⟨b,1,none⟩=some (.int .i64 aF)/\w'.cell? ⟨b,2,none⟩=some (.slice qp np cp)/\w'.cell? ⟨b,3,none⟩=some (.slice qb nb cb))
    (first|exact⟨by with_reducible assumption,by with_reducible assumption,by with_reducible assumption,by with_reducible assumption,by with_reducible assumption,by with_reducible assumption⟩|exact⟨(ko _ _ _ _ _ _ _ _ _ F1).trans k1,(ko _ _ _ _ _ _ _ _ _ E4).trans k2,(ko _ _ _ _ _ _ _ _ _ U).trans k3,(ko _ _ _ _ _ _ _ _ _ U).trans k4,(ko _ _ _ _ _ _ _ _ _ U).trans k5,(ko _ _ _ _ _ _ _ _ _ U).trans k6⟩)
    (first
    |(go_at_call 43;refine A5.mono ?_;rintro e r T;obtain⟨qt,nt,ct,qv,nv,cv,rfl,⟨k1,k2,k3,k4,k5,k6⟩,⟨⟨x0,x1,x2,x3,m0,m1,m2,m3⟩,L⟩,E5⟩:=HU.out e r T;have n0:=L (i*4);have n1:=L (i*4+1);have n2:=L (i*4+2);have n3:=L (i*4+3);clear T L))
   all_goals
    go_wp2;exact⟨⟨i+1,by omega,by go_num,E5⟩,by simp[intOf];omega⟩
  ·obtain rfl:i=n:=by omega
   have hL:=HI.out;obtain⟨E3,-,-,-,I,-⟩:=hL;have h5:=H5.out;have d:=(I.block _ (by omega)).trans h5.1.1;have h:=(I.block _ (by omega)).trans h5.1.2.1;have d0:=jc 0 d;have d1:=jc 0 h;have f0:=ea d 0;have f1:=ea h 0;have O:∀k,((wr.setCell ⟨w.heap.size,0,none⟩ (ptr (fb+1))).setCell ⟨w.heap.size+1,0,none⟩ .nilIface).heap[k]?=wr.heap[k]?:=λk=>by
    have h0:=(tS wr _ _ _ d _).trans h;exact(tS _ _ _ _ h0 k).trans (tS wr _ _ _ d k)
   have HE:Hid (((wr.setCell ⟨w.heap.size,0,none⟩ (ptr (fb+1))).setCell ⟨w.heap.size+1,0,none⟩ .nilIface).cell? ⟨w.heap.size,0,none⟩=some (ptr (fb+1))/\((wr.setCell ⟨w.heap.size,0,none⟩ (ptr (fb+1))).setCell ⟨w.heap.size+1,0,none⟩ .nilIface).cell? ⟨w.heap.size+1,0,none⟩=some .nilIface/\G (.returned (.tuple #[ptr (fb+1),.nilIface])) ((wr.setCell ⟨w.heap.size,0,none⟩ (ptr (fb+1))).setCell ⟨w.heap.size+1,0,none⟩ .nilIface)):=by
    refine⟨jc 0 ((O _).trans d),jc 0 ((O _).trans h),?_⟩;rw[HG.out];refine⟨fb+1,some ⟨fb,0,none⟩,i,rfl,PB HI.out B0.out (by omega) D5.out O (by simp),?_⟩;have h1:=h5.2.2.2.trans (I.mono (by omega));exact(h1.setCell (p:=⟨w.heap.size,0,none⟩) (aD _) _).setCell (p:=⟨w.heap.size+1,0,none⟩) (dK _) _
   clear I h5 d h O
   go_wp2_with fail
   refine bP (f:=42) (args:=#[ptr w.heap.size,ptr (w.heap.size+1)]) (by simp) (by simp[go_sem]) ?_
   refine(yC w.heap.size (w.heap.size+1) _).mono ?_;rintro e u' w7 ⟨rfl,rfl,rfl⟩;exact⟨_,MQ _ _ w.heap.size (w.heap.size+1) _ _ rfl rfl HE.out.1 HE.out.2.1,HE.out.2.2⟩
end Go.Proofs.YtnfhpdbbfejioaaGreatDoor.Mid
namespace Go.Proofs.YtnfhpdbbfejioaaGreatDoor.Mid.Sf
open Go Go.RowKit
def kE:Tr->Nat
 | .slice [.agg [_,_,_,a,v,b,el]] [g]=>fF a+fF v+kE b+kE el+1+kE g
 |_=>0
theorem ir(c a:Int)(nm:By)(b v d el g:Tr):kE (cc (st c a nm b v d el) g)=fF b+fF v+kE d+kE el+1+kE g:=by rw[kE]
theorem iG:kE ce=0:=by simp[kE]
theorem Gd.less{lk:By->Option Nm}{ns l:Nm}{pend:List Int}{w:Wr}(h:Gd lk (ns++l) pend w):Gd lk ns pend w:=⟨h.ty,h.s1,h.s2,h.no,λx k e=>h.nm x k (vC e),h.u1,h.u2,h.st,h.nd,h.le,h.go⟩
theorem Gd.swap{lk:By->Option Nm}{ns:Nm}{a b:Int}{pend:List Int}{w:Wr}(h:Gd lk ns (a::b::pend) w):Gd lk ns (b::a::pend) w:=by
 have c:(jm w.ss++a::b::pend).Perm (jm w.ss++b::a::pend):=(List.Perm.swap b a pend).append_left _;exact⟨h.ty,h.s1,h.s2,h.no,h.nm,h.u1,h.u2,h.st,c.nodup_iff.1 h.nd,λe d=>h.le e (c.mem_iff.2 d),λs f e=>c.mem_iff.1 (h.go s f e)⟩
theorem Ic(l m:List Ms):jm (l++m)=jm l++jm m:=by unfold jm;rw[dJ,cN]
theorem Ie{l m:List Ms}(h:l<+:m){e:Int}(a:e∈jm l):e∈jm m:=by
 obtain⟨r,rfl⟩:=h;rw[Ic];exact cF _ a
theorem Nh{e:Nat}(a:e<=100000):yc {fd with code:=4,label:=(e:Int)}=true:=iM (by show kh 4=true;decide) eO eO eO eO eO (fJ a) (by simp[fd]) (by simp[fd]) (by simp[fd]) rfl
theorem Ig{c:Int}{p:Nat}(hc:kh c=true)(b:p<=100000):yc {fd with code:=c,a:=(p:Int)}=true:=iM hc eO (fJ b) eO eO eO eO (by simp[fd]) (by simp[fd]) (by simp[fd]) rfl
theorem Lx{lk:By->Option Nm}{ts:List Int}{e:Int}:DT lk ts {fd with code:=4,label:=e}:=⟨by simp,by simp,by simp,by simp,by simp,by simp,by simp,by simp,by simp,by simp⟩
theorem Qj{lk:By->Option Nm}{ts:List Int}{c:Int}{p:Nat}(hc:c=8\/c=13)(h:ts[p]?=some 1):DT lk ts {fd with code:=c,a:=(p:Int)}:=by
 rcases hc with rfl|rfl
 ·exact⟨by simp,by simp,by simp,by simp,λ_=>eK h,by simp,by simp,by simp,by simp,by simp⟩
 ·exact⟨by simp,by simp,by simp,by simp,λ_=>eK h,by simp,by simp,by simp,by simp,by simp⟩
structure UI (lk:By->Option Nm) (ns:Nm) (pend:List Int) (m:Nat) (w w':Wr):Prop where
 gd:Gd lk ns pend w'
 ks:w'.ss.length<=w.ss.length+4*m
 kt:tz w'<=tz w+2*m
 kl:w'.lb<=w.lb+2*m
 kn:w'.nm.length<=w.nm.length+m
structure Rn (w:Wr) (m:Nat):Prop where
 s:w.ss.length+4*m<=90000
 t:tz w+2*m<=90000
 l:w.lb+2*m<=90000
 n:w.nm.length+m<=90000
section
variable {lk : By → Option Nm}
theorem LG{ns:Nm}{pend:List Int}{w:Wr}{v:Tr}{e b:Nat}{t:Int}(d:RE e b v)(f:ck lk ns v []= .ok t)(g:Gd lk ns pend w):pW v w=some (t,w):=by
 have h:=d;cases e with
 |zero=>exact d.elim
 |succ e=>
  rw[RE]at h;have i:∀{c a n:Int}{nm j:By}{l r xs:Tr},v=nd c a n nm j l r xs->c≠2->pW v w=some (t,w):=λk hc=>by
   have hk:=vA d f _ _ _ _ _ _ _ _ k hc;subst k;show kQ _ _ w=_;unfold kQ;rw[if_neg hc,hk]
  rcases h.2 with⟨a,n,-,-,k⟩|⟨a,nm,m,k⟩|⟨a,j,l,r,-,-,-,k⟩|⟨a,j,l,-,-,k⟩|⟨a,nm,xs,-,-,k⟩|⟨a,l,-,k⟩|⟨a,l,-,k⟩|⟨a,l,r,-,-,k⟩|⟨a,k⟩
  ·exact i k (by decide)
  ·subst k;obtain⟨p,h1,h2⟩:=g.nm _ _ (vw f);show kQ 2 nm w=_;unfold kQ;rw[if_pos rfl,if_pos (by have:=m.2.2.2.2;omega)];have:nG w.nm nm=p:=by unfold nG;rw[h1];rfl
   rw[this,h2]
  all_goals exact i k (by decide)
theorem Ih{ns:Nm}{pend:List Int}{w:Wr}{x:By}{k:Int}(a:Gd lk ns pend w)(b:gP ns x=some k)(c:zf x):∃p,iH x w=some (p,w)/\w.ts[p]?=some k:=by
 obtain⟨p,h1,h2⟩:=a.nm _ _ b;refine⟨p,?_,h2⟩;unfold iH;rw[if_pos (by have:=c.2.2.2.2;omega)];unfold nG;rw[h1];rfl
theorem Ii{F:Lf}(b:iR F){ns:Nm}{pend:List Int}{w:Wr}{v:Tr}{t:Int}{p:Nat}(d:CL lk F.L v)(f:ck lk ns v []= .ok t)(g:Gd lk ns pend w)(h:w.ts[p]?=some t)(i:Rm w (4*fF v) (2*fF v) (2*fF v))(h1:1<=fF v):
  ∃w',lL F p v w=some (p,w')/\Gd lk ns pend w'/\w.ts<+:w'.ts/\w'.ss.length+2<=w.ss.length+4*fF v/\tz w'+1<=tz w+2*fF v/\w'.lb<=w.lb+2*fF v/\w'.nm=w.nm:=by
 obtain⟨s,w1,j,k⟩:=d ns pend w t f g i;obtain⟨l,-,-,m⟩:=b.L _ _ _ _ j;have n:=k.ks;have o:=k.kt;have q:=k.kl;have r:=i.s;have u:=i.t;have x:=gi v;have y:=iJ w1;have z:=eN l.ex.ts h;have pl:=(aK.1 z).1;unfold lL;rw[eG j];unfold pV;by_cases hc:s.code=2/\s.a=(p:Int)
 ·rw[if_pos hc];exact⟨w1,rfl,k.gd,l.ex.ts,by omega,by omega,by omega,l.nm⟩
 ·rw[if_neg hc];obtain⟨A,B⟩:=k.ty w1.ts p aN z (by omega);obtain⟨C,D⟩:=mE k.gd A B k.c.2.2 (λe=>by rcases e with e|e;exact absurd e k.c.1;exact absurd e k.c.2.1) (by omega);rw[eG C];refine⟨_,rfl,D,l.ex.ts,?_,?_,?_,l.nm⟩
  ·show(w1.ss++[_]).length+2<=_;simp;omega
  ·show tz w1+1<=_;omega
  ·show w1.lb<=_;omega
theorem Qk{S:Tr->Lm Unit}{f d:Nat}
  (h:∀(xs:List Tr)(s s':Nm×Nat)(pend:List Int)(w:Wr),d+1<=13->(∀x∈xs,RS f (d+1) x)->gw lk (chain xs) s= .ok s'->4*kE (chain xs)+1<=5000->Gd lk s.1 pend w->Rn w (kE (chain xs))->∃w',lX S xs w=some ((),w')/\UI lk s'.1 pend (kE (chain xs)) w w'/\w.ss<+:w'.ss)
  {x g:Tr} {s s':Nm×Nat} {pend:List Int} {w:Wr} (j:RS (f+1) d x) (m:gw lk (cc x g) s= .ok s') (u:4*kE (cc x ce)+1<=5000) (z:Gd lk s.1 pend w) (A:Rn w (kE (cc x ce))):
  ∃B w',pg (mm 5000) S x w=some ((),w')/\gw lk g B= .ok s'/\UI lk B.1 pend (kE (cc x ce)) w w'/\w.ss<+:w'.ss:=by
 have C:=ru 5000;obtain⟨D,E,F,-⟩:=Ib (lk:=lk) 5000;have G:=A.s;have H:=A.t;have I:=A.l;have J:=A.n;have K:=iJ w;rw[RS]at j;rcases j with⟨a,nm,v,L,⟨M,N⟩,rfl⟩|⟨a,nm,v,L,⟨M,N⟩,rfl⟩|⟨a,nm,i,v,L,⟨O,P⟩,⟨M,N⟩,rfl⟩|⟨a,v,Q,el,hd,⟨M,N⟩,T,W,rfl⟩|⟨a,v,Q,hd,⟨M,N⟩,T,rfl⟩|⟨a,v,⟨M,N⟩,rfl⟩|⟨a,v,⟨M,N⟩,rfl⟩|⟨a,b,nm,Y,L,⟨M,Z⟩,rfl⟩
 ·rw[ir,iG,fS]at u G H I J⊢;obtain⟨t,B,A,K,O⟩:=sw m;obtain⟨A0,A1⟩:=oX K;have A2:=fG N;have A3:t=1\/t=2:=by
   cases M with
   |zero=>exact N.elim
   |succ M=>
    have j:=N;rw[RE]at j;have A4:∀{c a n:Int}{nm A5:By}{l r xs:Tr},v=nd c a n nm A5 l r xs->c≠2->t=1\/t=2:=λA6 hc=>AQ (vA N A _ _ _ _ _ _ _ _ A6 hc);rcases j.2 with⟨a,n,-,-,A6⟩|⟨a,nm,L,A6⟩|⟨a,A5,l,r,-,-,-,A6⟩|⟨a,A5,l,-,-,A6⟩|⟨a,nm,xs,-,-,A6⟩|⟨a,l,-,A6⟩|⟨a,l,-,A6⟩|⟨a,l,r,-,-,A6⟩|⟨a,A6⟩
    ·exact A4 A6 (by decide)
    ·subst A6;obtain⟨p,-,h2⟩:=z.nm _ _ (vw A);exact z.ty t (aM h2)
    all_goals exact A4 A6 (by decide)
  have hk:=LG N A z;have j:h9 t w=some (w.ts.length,{w with ts:=w.ts++[t]}):=by
   unfold h9;rw[if_pos];have:kh t=true:=by rcases A3 with rfl|rfl<;>decide
   simp[this];omega
  have A7:=z.grow A3;have A8:tz {w with ts:=w.ts++[t]}=tz w+1:=by unfold tz;simp;omega
  obtain⟨A9,B0,B1,B2,B3,B4,B5,B6⟩:=Ii C (E v _ _ N (by omega)) A A7 (p:=w.ts.length) jX ⟨by show w.ss.length+_<=_;omega,by rw[A8];omega,by show w.lb+_<=_;omega⟩ A2;rw[A8]at B4;have B7:A9.ss.length+2<=w.ss.length+4*fF v:=B3;have B8:A9.lb<=w.lb+2*fF v:=B5;have B9:A9.nm=w.nm:=B6;have C0:lJ nm w.ts.length A9=some ((),{A9 with nm:=(nm,w.ts.length)::A9.nm}):=by
   unfold lJ;rw[if_pos ⟨by rw[B9];omega,by have:=L.2.2.2.2;omega,by omega⟩]
  refine⟨B,{A9 with nm:=(nm,w.ts.length)::A9.nm},?_,O,⟨⟨B1.ty,B1.s1,B1.s2,B1.no,λy k e=>?_,B1.u1,B1.u2,B1.st,B1.nd,B1.le,B1.go⟩,?_,?_,?_,?_⟩,?_⟩
  ·rw[BR,eG hk,eG j,eG B0,C0]
  ·rw[A1]at e;rcases tQ e with e|⟨-,rfl,rfl⟩
   ·have j:y≠nm:=λC1=>by rw[C1,A0]at e;cases e
    obtain⟨q,h1,h2⟩:=B1.nm y k e;exact⟨q,by rw[r_ j];exact h1,h2⟩
   ·exact⟨w.ts.length,by rw[bU];simp,eN B2 jX⟩
  ·show A9.ss.length<=_;omega
  ·show tz A9<=_;omega
  ·show A9.lb<=_;omega
  ·show(_::A9.nm).length<=_;rw[B9];simp
  ·have:=(nQ C B0).2.ex.ss;exact this
 ·rw[ir,iG,fS]at u G H I J⊢;obtain⟨k,A,K,O⟩:=uB m;have A2:=fG N;obtain⟨p,j,C2⟩:=Ih z A L;obtain⟨A9,B0,B1,B2,B3,B4,B5,B6⟩:=Ii C (E v _ _ N (by omega)) K z C2 ⟨by omega,by omega,by omega⟩ A2;exact⟨s,A9,by rw[BS,eG j,eG B0];rfl,O,⟨B1,by omega,by omega,by omega,by rw[B6];omega⟩,(nQ C B0).2.ex.ss⟩
 ·rw[ir,iG]at u G H I J⊢;obtain⟨A,K,O,A0⟩:=uC m;have A2:=fG N;have E:=fG P;have E:=gi i;have E:=gi v;obtain⟨p,w1,A7,C3⟩:=D i _ _ P (by omega) s.1 pend w 1 K z ⟨by omega,by omega,by omega⟩;have P:=C3.ks;have K:=C3.kt;have C4:=C3.kl;obtain⟨q,A9,C5,C6⟩:=D v _ _ N (by omega) s.1 pend w1 1 O C3.gd ⟨by omega,by omega,by omega⟩;have O:=C6.ks;have C7:=C6.kt;have C8:=C6.kl;obtain⟨r,j,C2⟩:=Ih C6.gd A L;have A:=(C.V _ _ _ _ A7).1;have C9:=(C.V _ _ _ _ C5).1;have D0:=iJ A9;have D1:A9.ts[p]?=some 1:=eN C9.ex.ts C3.ty;have pl:=(aK.1 D1).1;have D2:=(aK.1 C6.ty).1;have D3:=(aK.1 C2).1;obtain⟨D4,D5⟩:=mE C6.gd (s:={fd with code:=12,a:=(r:Int),b:=(p:Int),c:=(q:Int)}) ⟨by simp,by simp,by simp,by simp,by simp,λ_=>eK C2,λ_=>eK D1,λ_=>eK C6.ty,by simp,by simp⟩ (iM (by show kh 12=true;decide) eO (fJ (by omega)) (fJ (by omega)) (fJ (by omega)) eO eO (by simp[fd]) (by simp[fd]) (by simp[fd]) rfl) (by simp) (by simp) (by omega);refine⟨s,_,by rw[BU,eG A7,eG C5,eG j,D4],A0,⟨D5,?_,?_,?_,?_⟩,((A.trans C9).trans (fM D4 (by simp)).2.1).ex.ss⟩
  ·show(A9.ss++[_]).length<=_;simp;omega
  ·show tz A9<=_;omega
  ·show A9.lb<=_;omega
  ·show A9.nm.length<=_;rw[C9.nm,A.nm];omega
 ·rw[ir,iG,fS]at u G H I J⊢;obtain⟨B,j,D6,D7,D8,D9⟩:=lF (by decide) m;have A2:=fG N;have E:=gi v;obtain⟨E0,E1⟩:=lr f (d+1) Q T _ _ D7;obtain⟨E2,E3⟩:=lr f (d+1) el W _ _ D8;obtain⟨o,w1,E4,E5,E6,E7,E8⟩:=mW z (by omega);obtain⟨E9,-,-,-,-,F0⟩:=fY E4;obtain⟨A9,F1,F2⟩:=F v _ _ N (by omega) s.1 _ w1 o D6 (cy ..) E5 ⟨by rw[F0];omega,by omega,by omega⟩;have P:=F2.ks;have K:=F2.kt;have C4:=F2.kl;rw[F0]at P;have F3:=(C.U _ _ _ _ F1).1;have F4:A9.nm=w.nm:=by rw[F3.nm,E9.nm]
  obtain⟨w3,O,C7,C8⟩:=h Q s B _ A9 (by omega) T D7 (by omega) F2.gd ⟨by omega,by omega,by omega,by rw[F4];omega⟩;have F5:=C7.ks;have F6:=C7.kt;have F7:=C7.kl;have F8:=C7.kn;rw[F4]at F8;have C5:Gd lk s.1 (↑o::pend) w3:=by have:=C7.gd;rw[E1]at this;exact this.less
  have F9:w.ss<+:w3.ss:=((E9.trans F3).ex.ss).trans C8;by_cases G0:el=[]
  ·obtain⟨G1,G2,G3,G4⟩:=rJ C5 (by omega) (by omega);have G5:G1.ss.length=w3.ss.length+1:=by rw[G4];simp
   have G6:tz G1=tz w3:=by rw[G4];rfl
   have G7:G1.lb=w3.lb:=by rw[G4]
   have G8:G1.nm=w3.nm:=by rw[G4]
   refine⟨(s.1,j.2),G1,?_,D9,⟨G3,by omega,by omega,by omega,by rw[G8];omega⟩,F9.trans (by rw[G4];exact bf _ _)⟩;rw[yx,eZ,eZ];unfold lM;rw[eG E4,eG F1,eG O,if_pos G0,G2]
  ·obtain⟨e,G1,G9,C1,H0,H1,H2⟩:=mW C5 (by omega);obtain⟨H3,-,-,-,-,H4⟩:=fY G9;obtain⟨H5,H6⟩:=mE C1 (s:={fd with code:=4,label:=(e:Int)}) Lx (Nh (by omega)) (by simp) (λ_=>bJ _ (cy ..)) (by rw[H4];omega);have H7:(G1.ss++[({fd with code:=4,label:=(e:Int)}:Ms)]).length=w3.ss.length+1:=by rw[H4];simp
   obtain⟨H8,G2,G3,G4⟩:=rJ H6.swap (by omega) (by show(G1.ss++[_]).length<_;rw[H7];omega);have H9:H8.ss.length=w3.ss.length+2:=by rw[G4];show((G1.ss++[_])++[_]).length=_;rw[bh,H7];rfl
   have I0:tz H8=tz w3:=by rw[G4];exact H0
   have I1:H8.lb=w3.lb+1:=by rw[G4];exact H1
   have I2:H8.nm=w3.nm:=by rw[G4];exact H3.nm
   obtain⟨w7,I3,I4,I5⟩:=h el (s.1,B.2) j _ H8 (by omega) W D8 (by omega) G3 ⟨by omega,by omega,by omega,by rw[I2];omega⟩;have W:=I4.ks;have W:=I4.kt;have W:=I4.kl;have W:=I4.kn;rw[I2]at W;have W:Gd lk s.1 (↑e::pend) w7:=by have:=I4.gd;rw[E3]at this;exact this.less
   obtain⟨I6,I7,I8,I9⟩:=rJ W (by omega) (by omega);have W:I6.ss.length=w7.ss.length+1:=by rw[I9];simp
   have W:tz I6=tz w7:=by rw[I9];rfl
   have W:I6.lb=w7.lb:=by rw[I9]
   have W:I6.nm=w7.nm:=by rw[I9]
   have J0:w3.ss<+:I6.ss:=by
    have h1:w3.ss<+:H8.ss:=by
     rw[G4];show w3.ss<+:(G1.ss++[_])++[_];rw[H4];exact(bf _ _).trans (bf _ _)
    exact(h1.trans I5).trans (by rw[I9];exact bf _ _)
   refine⟨(s.1,j.2),I6,?_,D9,⟨I8,by omega,by omega,by omega,by rw[W];omega⟩,F9.trans J0⟩;rw[yx,eZ,eZ];unfold lM;rw[eG E4,eG F1,eG O,if_neg G0,eG G9,eG H5,eG G2,eG I3,I7]
 ·rw[ir,iG,fS]at u G H I J⊢;obtain⟨B,j,D6,D7,-,D9⟩:=lF (by decide) m;have A2:=fG N;have E:=gi v;obtain⟨E0,E1⟩:=lr f (d+1) Q T _ _ D7;obtain⟨o,w1,E4,E5,E6,E7,E8⟩:=mW z (by omega);obtain⟨E9,-,-,-,-,F0⟩:=fY E4;obtain⟨e,A9,G9,C1,H0,H1,H2⟩:=mW E5 (by omega);obtain⟨H3,-,-,-,-,H4⟩:=fY G9;obtain⟨w3,G2,G3,G4⟩:=rJ C1.swap (by omega) (by rw[H4,F0];omega);have W:w3.ss.length=w.ss.length+1:=by rw[G4];show(A9.ss++[_]).length=_;rw[H4,F0];simp
  have W:tz w3=tz w:=by rw[G4];show tz A9=_;rw[H0,E6]
  have W:w3.lb=w.lb+2:=by rw[G4];show A9.lb=_;rw[H1,E7]
  have W:w3.nm=w.nm:=by rw[G4];show A9.nm=_;rw[H3.nm,E9.nm]
  have J1:(o:Int)∈jm w3.ss:=by
   rw[G4];show(o:Int)∈jm (A9.ss++[_]);rw[rj];exact bJ _ (by simp)
  obtain⟨G1,F1,F2⟩:=F v _ _ N (by omega) s.1 _ w3 e D6 (cy ..) G3 ⟨by omega,by omega,by omega⟩;have P:=F2.ks;have K:=F2.kt;have C4:=F2.kl;have F3:=(C.U _ _ _ _ F1).1;have F:G1.nm=w.nm:=by rw[F3.nm,W]
  obtain⟨w5,O,C7,C8⟩:=h Q s B _ G1 (by omega) T D7 (by omega) F2.gd ⟨by omega,by omega,by omega,by rw[F];omega⟩;have F5:=C7.ks;have F6:=C7.kt;have F7:=C7.kl;have F8:=C7.kn;rw[F]at F8;have h:Gd lk s.1 (↑e::pend) w5:=by have:=C7.gd;rw[E1]at this;exact this.less
  obtain⟨H5,H6⟩:=mE h (s:={fd with code:=4,label:=(o:Int)}) Lx (Nh (by omega)) (by simp) (λ_=>cF _ (Ie (F3.ex.ss.trans C8) J1)) (by omega);obtain⟨w7,I7,I8,I9⟩:=rJ H6 (by omega) (by show(w5.ss++[_]).length<_;simp;omega);have Q:w7.ss.length=w5.ss.length+2:=by rw[I9];simp
  have T:tz w7=tz w5:=by rw[I9];rfl
  have W:w7.lb=w5.lb:=by rw[I9]
  have F:w7.nm=w5.nm:=by rw[I9]
  have F9:w.ss<+:w7.ss:=by
   have h1:w.ss<+:w3.ss:=by
    rw[G4];show w.ss<+:A9.ss++[_];rw[H4,F0];exact bf _ _
   have h2:w5.ss<+:w7.ss:=by
    rw[I9];exact(bf _ _).trans (bf _ _)
   exact((h1.trans F3.ex.ss).trans C8).trans h2
  refine⟨(s.1,j.2),w7,?_,D9,⟨I8,by omega,by omega,by omega,by rw[F];omega⟩,F9⟩;rw[BV,eZ];unfold tA;rw[eG E4,eG G9,eG G2,eG F1,eG O,eG H5,I7]
 ·rw[ir,iG,fS]at u G H I J⊢;obtain⟨B,j,D6,-,-,D9⟩:=lF (by decide) m;have A2:=fG N;have E:=gi v;obtain⟨p,w1,A7,C3⟩:=D v _ _ N (by omega) s.1 pend w 1 D6 z ⟨by omega,by omega,by omega⟩;have P:=C3.ks;have K:=C3.kt;have C4:=C3.kl;have A:=(C.V _ _ _ _ A7).1;have D0:=iJ w1;have pl:=(aK.1 C3.ty).1;obtain⟨D4,D5⟩:=mE C3.gd (s:={fd with code:=8,a:=(p:Int)}) (Qj (.inl rfl) C3.ty) (Ig (by decide) (by omega)) (by simp) (by simp) (by omega);refine⟨(s.1,j.2),_,by rw[Ha,eG A7,D4],D9,⟨D5,?_,?_,?_,?_⟩,A.ex.ss.trans (bf _ _)⟩
  ·show(w1.ss++[_]).length<=_;simp;omega
  ·show tz w1<=_;omega
  ·show w1.lb<=_;omega
  ·show w1.nm.length<=_;rw[A.nm];omega
 ·rw[ir,iG,fS]at u G H I J⊢;obtain⟨B,j,D6,-,-,D9⟩:=lF (by decide) m;have A2:=fG N;have E:=gi v;obtain⟨p,w1,A7,C3⟩:=D v _ _ N (by omega) s.1 pend w 1 D6 z ⟨by omega,by omega,by omega⟩;have P:=C3.ks;have K:=C3.kt;have C4:=C3.kl;have A:=(C.V _ _ _ _ A7).1;have D0:=iJ w1;have pl:=(aK.1 C3.ty).1;obtain⟨D4,D5⟩:=mE C3.gd (s:={fd with code:=13,a:=(p:Int)}) (Qj (.inr rfl) C3.ty) (Ig (by decide) (by omega)) (by simp) (by simp) (by omega);refine⟨(s.1,j.2),_,by rw[BW,eG A7,D4],D9,⟨D5,?_,?_,?_,?_⟩,A.ex.ss.trans (bf _ _)⟩
  ·show(w1.ss++[_]).length<=_;simp;omega
  ·show tz w1<=_;omega
  ·show w1.lb<=_;omega
  ·show w1.nm.length<=_;rw[A.nm];omega
 ·rw[ir,iG,fS]at u G H I J⊢;obtain⟨B,j,D6,-,-,D9⟩:=lF (by decide) m;have h:RE (M+1) 0 (nd 5 b 0 nm [] .nil .nil (chain Y)):=by
   rw[RE];exact⟨by omega,.inr (.inr (.inr (.inr (.inl ⟨b,nm,Y,L,Z,rfl⟩))))⟩
  have E:jv (nd 5 b 0 nm [] .nil .nil (chain Y))=0:=by rw[nP,if_neg (by simp)]
  obtain⟨p,w1,A7,C3⟩:=D _ _ _ h (by omega) s.1 pend w 1 D6 z ⟨by omega,by omega,by omega⟩;have P:=C3.ks;have K:=C3.kt;have C4:=C3.kl;have A:=(C.V _ _ _ _ A7).1;exact⟨(s.1,j.2),w1,by rw[BZ,eG A7];rfl,D9,⟨C3.gd,by omega,by omega,by omega,by rw[A.nm];omega⟩,A.ex.ss⟩
theorem LH(x:Tr)(g:Tr){f d:Nat}(c:RS f d x):kE (cc x g)=kE (cc x ce)+kE g:=by
 cases f with
 |zero=>exact c.elim
 |succ f=>
  rw[RS]at c;rcases c with⟨a,nm,v,-,-,rfl⟩|⟨a,nm,v,-,-,rfl⟩|⟨a,nm,i,v,-,-,-,rfl⟩|⟨a,v,e,el,-,-,-,-,rfl⟩|⟨a,v,e,-,-,-,rfl⟩|⟨a,v,-,rfl⟩|⟨a,v,-,rfl⟩|⟨a,b,nm,h,-,-,rfl⟩<;>rw[ir,ir,iG]<;>omega
theorem Az:∀(gs f d:Nat)(xs:List Tr)(s s':Nm×Nat)(pend:List Int)(w:Wr),d<=13->15<=gs+d->(∀x∈xs,RS f d x)->gw lk (chain xs) s= .ok s'->4*kE (chain xs)+1<=5000->Gd lk s.1 pend w->Rn w (kE (chain xs))->∃w',lX (DR (mm 5000) gs) xs w=some ((),w')/\UI lk s'.1 pend (kE (chain xs)) w w'/\w.ss<+:w'.ss
 |gs,f,d,[],s,s',pend,w,hd,c,e,g,h,i,j=>by
  obtain rfl:=oV g;exact⟨w,rfl,⟨i,by omega,by omega,by omega,by omega⟩,aN⟩
 |0,f,d,x::xs,s,s',pend,w,hd,c,e,g,h,i,j=>by omega
 |gs+1,0,d,x::xs,s,s',pend,w,hd,c,e,g,h,i,j=>(e x (by simp)).elim
 |gs+1,f+1,d,x::xs,s,s',pend,w,hd,c,e,g,h,i,j=>by
  have k:kE (chain (x::xs))=kE (cc x ce)+kE (chain xs):=LH x (chain xs) (e x (by simp));rw[k]at h j⊢;have m:=j.s;have o:=j.t;have p:=j.l;have q:=j.n;obtain⟨r,w1,u,v,z,A⟩:=Qk (lk:=lk) (S:=DR (mm 5000) gs) (λxs s s' pend w h1 h2 B C D E=>Az gs f (d+1) xs s s' pend w h1 (by omega) h2 B C D E) (e x (by simp)) g (by omega) i ⟨by omega,by omega,by omega,by omega⟩;have F:=z.ks;have G:=z.kt;have H:=z.kl;have I:=z.kn;obtain⟨J,K⟩:=Al z.gd (a:=0) (b:=0) (by omega) (by omega);obtain⟨w',L,M,N⟩:=Az (gs+1) (f+1) d xs r s' pend {w1 with u1:=0,u2:=0} hd c (λy O=>e y (by simp[O])) v (by omega) K ⟨by show w1.ss.length+_<=_;omega,by show tz w1+_<=_;omega,by show w1.lb+_<=_;omega,by show w1.nm.length+_<=_;omega⟩;have P:w'.ss.length<=w1.ss.length+4*kE (chain xs):=M.ks;have Q:tz w'<=tz w1+2*kE (chain xs):=M.kt;have T:w'.lb<=w1.lb+2*kE (chain xs):=M.kl;have U:w'.nm.length<=w1.nm.length+kE (chain xs):=M.kn;have V:w1.ss<+:w'.ss:=N;refine⟨w',?_,⟨M.gd,by omega,by omega,by omega,by omega⟩,A.trans V⟩;show lb (DR (mm 5000) (gs+1) x) _ w=_;have W:DR (mm 5000) (gs+1) x w=some ((),w1):=u;rw[eG W,eG J,L]
end
end Go.Proofs.YtnfhpdbbfejioaaGreatDoor.Mid.Sf
namespace Go.Proofs.YtnfhpdbbfejioaaGreatDoor.Mid
open Go Go.RowKit
def mT:By:=[102,110,32,109,97,105,110,40,41,32,123,32,118,97,114,32,97,32,61,32,110,101,119,40,50,41,59,32,97,91,49,93,32,61,32,54,59,32,105,102,32,40,97,91,49,93,32,62,32,53,32,38,38,32,108,101,110,40,97,41,32,61,61,32,50,41,32,123,32,112,114,105,110,116,32,97,91,49,93,59,32,125,32,114,101,116,117,114,110,32,102,40,97,44,32,50,41,59,32,125,32,102,110,32,102,40,120,58,32,97,114,114,44,32,110,58,32,105,110,116,41,32,123,32,114,101,116,117,114,110,32,120,91,110,93,59,32,125]
def mL:List eR:=Cf (Ld (gK mT))
def TK(F:eR):Mf:=match AB F.ps F.body with
 |some (_,s)=>⟨F.nm,F.ps.length,s.ts,s.ss⟩
 |none=>⟨[],0,[],[]⟩
def EW:List Mf:=mL.map TK
theorem Bk:gK mT= .ok (chain (mL.map eR.tr)):=by kernel_rfl
theorem Mw:mL.length=2:=by kernel_rfl
theorem Ra:chk mL= .ok true:=by kernel_rfl
theorem Rb:mL.all (λF=>(AB F.ps F.body).isSome)=true:=by kernel_rfl
theorem TL:EW.all (λm=>decide (-9223372036854775808<=m.params)&&(decide (m.params<=9223372036854775807)&&decide (m.name.length<=9223372036854775807)))=true:=by kernel_rfl
theorem JZ:gy EW=true:=by kernel_rfl
theorem Rc:gO 1001 EW [] 1000=(3,0,[6]):=by kernel_rfl
end Go.Proofs.YtnfhpdbbfejioaaGreatDoor.Mid
namespace Go.Proofs.YtnfhpdbbfejioaaGreatDoor.Mid.Sf
open Go Go.RowKit
section
variable {lk : By → Option Nm}
theorem NQ:Gd lk [] [] uh:=⟨λx h=>by simp[uh]at h,λx h=>by simp[uh]at h,λx h=>by simp[uh]at h,λz h=>(by cases h),λx k e=>(by cases e),aD _,aD _,λs h=>by simp[uh]at h,dp,λe h=>by simp[uh,jm]at h,λs h=>by simp[uh]at h⟩
theorem Mk{a:Int}:∀(b:Nm)(s s':Nm×Nat)(w:Wr),ly a b s= .ok s'->(∀x∈b,GY x)->Gd lk s.1 [] w->w.ts.length+b.length<=90000->w.nm.length+b.length<=90000->∃w',ku b w=some ((),w')/\Gd lk s'.1 [] w'/\w'.ts=w.ts++b.map (·.2)/\w'.ss=w.ss/\w'.lb=w.lb/\w'.nm.length=w.nm.length+b.length/\w'.no=w.no
 |[],s,s',w,c,d,f,h1,h2=>by
  rw[ly]at c;injection c with c;subst c;exact⟨w,rfl,f,by simp,rfl,rfl,rfl,rfl⟩
 |p::b,s,s',w,c,d,f,h1,h2=>by
  rw[ly]at c;obtain⟨g,h,i⟩:=eE c;obtain⟨j,l⟩:=oX h;obtain⟨m,n⟩:=d p (by simp);simp only[aZ]at h1 h2;have o:h9 p.2 w=some (w.ts.length,{w with ts:=w.ts++[p.2]}):=by
   unfold h9;rw[if_pos];have:kh p.2=true:=by rcases n with e|e<;>rw[e]<;>decide
   simp[this];omega
  have r:=f.grow n;have u:lJ p.1 w.ts.length {w with ts:=w.ts++[p.2]}=some ((),{w with ts:=w.ts++[p.2],nm:=(p.1,w.ts.length)::w.nm}):=by
   unfold lJ;rw[if_pos ⟨by show w.nm.length<_;omega,by have:=m.2.2.2.2;omega,by omega⟩]
  have v:Gd lk g.1 [] {w with ts:=w.ts++[p.2],nm:=(p.1,w.ts.length)::w.nm}:=⟨r.ty,r.s1,r.s2,r.no,λy k e=>by
   rw[l]at e;rcases tQ (x:=p.1) (t:=p.2) e with e|⟨-,rfl,rfl⟩
   ·have z:y≠p.1:=λA=>by rw[A,j]at e;cases e
    obtain⟨q,h1,h2⟩:=r.nm y k e;exact⟨q,by show((p.1,w.ts.length)::w.nm).lookup y=_;rw[r_ z];exact h1,h2⟩
   ·exact⟨w.ts.length,by show((p.1,w.ts.length)::w.nm).lookup p.1=_;rw[bU];simp,jX⟩,r.u1,r.u2,r.st,r.nd,r.le,r.go⟩
  obtain⟨w',B,C,D,E,F,G,H⟩:=Mk b g s' _ i (λx I=>d x (by simp[I])) v (by simp;omega) (by simp;omega);refine⟨w',?_,C,?_,E,F,?_,H⟩
  ·show lb (h9 p.2) _ w=_;rw[eG o,eG u,B]
  ·rw[D];simp
  ·rw[G];simp;omega
theorem QW{F:eR}(b:RF F)(c:uM lk F= .ok ())(d:4*kE F.body+1<=4990)(f:F.ps.length<=1200):∃g ns,AB F.ps F.body=some ((),g)/\Gd lk ns [] g/\g.ss.length<=4*kE F.body+1/\g.ts.length<=1+F.ps.length+2*kE F.body/\(F.ps.map λx:By×Int=>x.2)<+:g.ts/\∃l st,g.ss=l++[st]/\st.code=8:=by
 obtain⟨-,-,j,xs,e,k,m⟩:=b;unfold uM at c;obtain⟨n,o,c⟩:=eE c;obtain⟨p,q,-⟩:=eE c;rw[k]at q d⊢;obtain⟨w1,r,t,u,w,y,A,B⟩:=Mk (lk:=lk) F.ps ([],0) n uh o j NQ (by show 0+_<=_;omega) (by show 0+_<=_;omega);have C:w1.ss.length=0:=by rw[w];rfl
 have D:tz w1=F.ps.length+1:=by
  unfold tz;rw[B,u];show(([]:List Int)++F.ps.map (λx:By×Int=>x.2)).length+1=_;simp
 have E:w1.lb=0:=by rw[y];rfl
 have G:w1.nm.length=F.ps.length:=by rw[A];exact bQ _
 obtain⟨H,I,J,K⟩:=Az (lk:=lk) 100 e 1 xs n p [] w1 (by omega) (by omega) m q (by omega) t ⟨by omega,by omega,by omega,by omega⟩;have L:=J.ks;have M:=J.kt;have N:=J.kl;have O:=iJ H;obtain⟨P,Q,-⟩:=wq (X:=⟨λ_=>none,0,⟨[],0,[],[]⟩,uh⟩) F.ps ([],0) n uh w1 (List.replicate F.ps.length (0,none)) [] (List.replicate F.ps.length (0,none)) o r wu Cg (by simp) (λi v S=>by show(List.replicate _ _)[0+i]?=_;rw[bQ];exact S);have T:(F.ps.map λx:By×Int=>x.2)<+:H.ts:=by
  have:=(tR (lk:=lk) 5000 100 e 1 xs n p w1 H m q I (P.ok wu) Q).ex.ts;rw[u]at this;exact this
 unfold AB;rw[eG r,eZ,eG I];unfold Dj;cases U:pX H.ss with
 |true=>
  rw[if_pos rfl];refine⟨H,p.1,rfl,J.gd,by omega,by omega,T,?_⟩;rcases List.eq_nil_or_concat H.ss with h|⟨l,st,h⟩
  ·rw[h]at U;cases U
  ·rw[List.concat_eq_append]at h;refine⟨l,st,h,?_⟩;rw[h]at U;unfold pX at U;simpa using U
 |false=>
  rw[if_neg (by simp)];obtain⟨z,V,W,Y,Z,f,g⟩:=Ak J.gd (by omega);obtain⟨b,-,-,-,c⟩:=nR W;have d:=iJ V;have k:=(aK.1 Z).1;obtain⟨j,w⟩:=mE Y (s:={fd with code:=8,a:=(z:Int)}) (Qj (.inl rfl) Z) (Ig (by decide) (by omega)) (by simp) (by simp) (by rw[c];omega);rw[eG W,j];refine⟨_,p.1,rfl,w,?_,?_,T.trans b.ex.ts,V.ss,_,rfl,rfl⟩
  ·show(V.ss++[_]).length<=_;rw[c];simp;omega
  ·show V.ts.length<=_;omega
theorem wX{l:List Ms}{x:Int}(h:x∈jm l):(fA l x).isSome=true:=by
 unfold jm at h;obtain⟨s,h1,h2⟩:=aT.1 h;obtain⟨a,b⟩:=cY.1 h1;unfold fA;rw[List.findIdx?_isSome,List.any_eq_true];exact⟨s,a,by simp[h2]at b⊢;exact b⟩
theorem qQ{F:Mf}{p k:Int}(h:kX F.types p k):ng F p k=true:=by
 obtain⟨q,rfl,h⟩:=h;have a:=(aK.1 h).1;unfold ng;rw[aR,aU,h];simp;omega
theorem gh{F:Mf}{p k:Int}(h:k=0\/kX F.types p k):jD F p k=true:=by
 unfold jD;rcases h with rfl|h
 ·rfl
 ·rw[qQ h];simp
theorem Jw{fs:By->Option Mf}{F:Mf}{s:Ms}(h:DT lk F.types s)(a:s.code=4\/s.code=5->s.label∈jm F.steps)(b:∀nm d,lk nm=some d->∃G,fs nm=some G/\G.params=(d.length:Int)/\(d.map λx=>x.2)<+:G.types):jb fs F s=true:=by
 obtain⟨f,g⟩:=h.c;have hc:s.code=1\/s.code=2\/s.code=3\/s.code=4\/s.code=5\/s.code=6\/s.code=7\/s.code=8\/s.code=9\/s.code=10\/s.code=11\/s.code=12\/s.code=13\/s.code=14:=by omega
 have j:∀p,jD F p 0=true:=λp=>gh (.inl rfl);unfold jb Hs od;rcases hc with e|e|e|e|e|e|e|e|e|e|e|e|e|e
 ·rw[e];simp[l9,j,gh (.inr (h.d1 (by omega)))]
 ·obtain⟨k,hk,l,m⟩:=h.cp e;rw[e];rcases hk with rfl|rfl
  ·simp[l9,j,qQ l,qQ m]
  ·simp[l9,j,qQ l,qQ m]
 ·rw[e];have n:nj s.op=true:=by unfold nj;rw[cz];exact h.op e
  simp[l9,j,gh (.inr (h.d1 (by omega))),gh (.inr (h.a1 (by omega))),gh (.inr (h.b1 (by omega))),n]
 ·rw[e];simp[l9,j,wX (a (by omega))]
 ·rw[e];simp[l9,j,gh (.inr (h.a1 (by omega))),wX (a (by omega))]
 ·rw[e];simp[l9,j]
 ·obtain⟨d,o,q,r⟩:=h.ag e;obtain⟨G,t,u,v⟩:=b _ _ o;have w:kA F (fs s.name) s.args=true:=by
   rw[t];unfold kA;simp only[bo,decide_eq_true_eq];refine⟨by rw[u,q],?_⟩;rw[bz];intro p y;obtain⟨i,z⟩:=a7 y;rw[cV]at z;obtain⟨A,B⟩:=z;have C:i<d.length:=by have:=(aK.1 A).1;omega
   have D:=aI C;have:=r i p.1 _ A D;have E:G.types[i]?=some (d[i]).2:=eN v (by rw[bw,D];rfl);rw[B]at E;injection E with E;rw[E];exact qQ this
  rw[e];simp[l9,j,gh (.inr (h.d1 (by omega))),w]
 ·rw[e];simp[l9,j,gh (.inr (h.a1 (by omega)))]
 ·rw[e];simp[l9,j,gh (.inr (h.d2 (by omega))),gh (.inr (h.a1 (by omega)))]
 ·rw[e];simp[l9,j,gh (.inr (h.d1 (by omega))),gh (.inr (h.a2 (by omega)))]
 ·rw[e];simp[l9,j,gh (.inr (h.d1 (by omega))),gh (.inr (h.a2 (by omega))),gh (.inr (h.b1 (by omega)))]
 ·rw[e];simp[l9,j,gh (.inr (h.a2 (by omega))),gh (.inr (h.b1 (by omega))),gh (.inr (h.c1 (by omega)))]
 ·rw[e];simp[l9,j,gh (.inr (h.a1 (by omega)))]
 ·rw[e];simp[l9,j,gh (.inr (h.d1 (by omega)))]
end
def rT(F:eR):Mf:=match AB F.ps F.body with
 |some (_,s')=>⟨F.nm,F.ps.length,s'.ts,s'.ss⟩
 |none=>⟨F.nm,0,[],[]⟩
theorem mH{F:eR}{a:Wr}(h:AB F.ps F.body=some ((),a)):rT F=⟨F.nm,F.ps.length,a.ts,a.ss⟩:=by unfold rT;rw[h]
theorem Et(F:eR):(rT F).name=F.nm:=by
 unfold rT;split<;>rfl
theorem vz(L:List eR)(nm:By):iQ (L.map rT) nm=(L.find? (λF=>F.nm==nm)).map rT:=by
 unfold iQ;rw[List.find?_map];congr 2
 funext F
 show((rT F).name==nm)=_;rw[Et]
theorem Eu:∀(L:List eR)(ns:List By),twice ns L= .ok ()->(L.map (·.nm)).Nodup:=λL ns h=>by
 have c:∀(L:List eR)(ns:List By),twice ns L= .ok ()->(L.map (·.nm)).Nodup/\∀F∈L,F.nm∉ns:=λL=>by
  induction L with
  |nil=>intro ns _;exact⟨dp,λF h=>by simp at h⟩
  |cons F L f=>
   intro ns h;rw[twice]at h;split at h
   ·cases h
   ·rename_i h1;obtain⟨g,d⟩:=f _ h;refine⟨?_,λG a=>?_⟩
    ·rw[bO,cj];refine⟨λb=>?_,g⟩;obtain⟨G,a,e⟩:=aT.1 b;exact d G a (by rw[e];simp)
    ·rcases aY.1 a with rfl|a
     ·intro b;exact h1 (by simpa using b)
     ·exact λb=>d G a (b9 _ b)
 exact(c L ns h).1
theorem NR{L:List eR}(r:∀F∈L,RF F)(p:chk L= .ok true)(g:∀F∈L,kE F.body+F.ps.length<=1200)(C:L.length<=12):(∀F∈L,∃d,AB F.ps F.body=some ((),d)/\d.ss≠[])/\gy (L.map rT)=true/\Le L (L.map rT):=by
 have hc:=p;unfold Go.Proofs.YtnfhpdbbfejioaaGreatDoor.chk at hc;obtain⟨_,O,hc⟩:=eE hc;obtain⟨_,M,hc⟩:=eE hc;injection hc with hmain;have y:∀F∈L,uM (eU L) F= .ok ():=by
  have:∀(l:List eR),oL (eU L) l= .ok ()->∀F∈l,uM (eU L) F= .ok ():=λl=>by
   induction l with
   |nil=>intro _ F b;simp at b
   |cons a l A=>
    intro h F b;rw[oL]at h;obtain⟨_,P,Q⟩:=eE h;rcases aY.1 b with rfl|b
    ·exact P
    ·exact A Q F b
  exact this L M
 have c:∀F∈L,∃d ns,AB F.ps F.body=some ((),d)/\Gd (eU L) ns [] d/\d.ss.length<=4*kE F.body+1/\d.ts.length<=1+F.ps.length+2*kE F.body/\(F.ps.map λx:By×Int=>x.2)<+:d.ts/\∃l st,d.ss=l++[st]/\st.code=8:=λF b=>QW (r F b) (y F b) (by have:=g F b;omega) (by have:=g F b;omega);have z:∀nm v,eU L nm=some v->∃G,iQ (L.map rT) nm=some G/\G.params=(v.length:Int)/\(v.map λx=>x.2)<+:G.types:=λnm v E=>by
  unfold eU at E;obtain⟨F,b,rfl⟩:=bA.1 E;obtain⟨d,ns,f,i,u,w,n,k⟩:=c F (bu b);exact⟨rT F,by rw[vz,b];rfl,by rw[mH f],by rw[mH f];exact n⟩
 have B:=(Eu L [] O);refine⟨λF b=>?_,?_,⟨r,p,λnm T J=>?_⟩⟩
 ·obtain⟨d,ns,f,i,u,w,n,l,st,k,I⟩:=c F b;exact⟨d,f,by rw[k];simp⟩
 ·unfold gy;simp only[bo,decide_eq_true_eq,cX];refine⟨C,?_,?_,?_,?_⟩
  ·unfold t_;rw[decide_eq_true_eq,List.map_map];have:((λm:Mf=>m.name)∘rT)=λF:eR=>F.nm:=by funext F;exact Et F
   rw[this];exact B
  ·unfold mX;split at hmain
   ·rename_i e;unfold eU at e;obtain⟨F,b,e⟩:=bA.1 e;obtain⟨d,ns,f,-⟩:=c F (bu b);rw[vz];show(match (L.find? (λF=>F.nm==_)).map rT with|some F=>F.params==0|none=>false)=true;have D:L.find? (λF=>F.nm==[109,97,105,110])=some F:=b;rw[D];show((rT F).params==0)=true;rw[mH f,e];rfl
   ·cases hmain
  ·rw[bz];intro m o;obtain⟨F,b,rfl⟩:=aT.1 o;obtain⟨d,ns,f,i,u,w,n,k⟩:=c F b;have j:=g F b;rw[mH f];unfold fe;have K:=n.length_le;simp only[cX]at K;simp only[bo,decide_eq_true_eq];refine⟨by omega,by omega,by omega,?_⟩;rw[bz];intro x N;rcases i.ty x N with rfl|rfl<;>rfl
  ·rw[bz];intro m o;obtain⟨F,b,rfl⟩:=aT.1 o;obtain⟨d,ns,f,i,u,w,n,l,st,k,I⟩:=c F b;have j:=g F b;rw[mH f];unfold gM;have t:=i.nd;rw[bT]at t;have q:1<=d.ss.length:=by rw[k];simp
   simp only[bo,decide_eq_true_eq];refine⟨⟨q,by omega⟩,?_,?_,?_⟩
   ·unfold oN;simp only[k];simp[I]
   ·unfold xf;rw[decide_eq_true_eq];exact t
   ·rw[bz];intro s H;exact Jw (F:=⟨F.nm,F.ps.length,d.ts,d.ss⟩) (i.st s H) (λe=>by have:=i.go s H e;rw[bT]at this;exact this) z
 ·have o:=bu J;obtain⟨d,ns,f,i,u,w,n,k⟩:=c T o;have t:=i.nd;rw[bT]at t;have j:=g T o;exact⟨d,f,by rw[vz,J];show some (rT T)=_;rw[mH f],t,by omega⟩
def mG(l:List Pc):Nat:=(kv l).length
theorem eA(a b:List Pc):mG (a++b)=mG a+mG b:=by unfold mG;rw[fh,bh]
theorem fW(p:Pc)(l:List Pc):mG (p::l)=mG [p]+mG l:=eA [p] l
theorem kq(w:By):mG [fx w]=1:=rfl
theorem Ql(w:By):mG [(⟨0,w⟩:Pc)]=1:=rfl
theorem se(t:Tr)(k:Nat)(s:List Pc):mG s<=mG (BH t k s):=by
 unfold BH;split
 ·exact aD _
 ·rw[fW,eA];omega
theorem l_:∀(e b:Nat)(t:Tr),RE e b t->fF t<=mG (iY t)
 |0,b,t,h=>h.elim
 |e+1,b,t,h=>by
  have c:=l_ e;rw[RE]at h;rcases h.2 with⟨a,n,-,-,rfl⟩|⟨a,nm,-,rfl⟩|⟨a,d,l,r,-,f,g,rfl⟩|⟨a,d,l,-,f,rfl⟩|⟨a,nm,xs,-,i,rfl⟩|⟨a,l,f,rfl⟩|⟨a,l,f,rfl⟩|⟨a,l,r,f,g,rfl⟩|⟨a,rfl⟩
  ·rw[gR,fS,kD,Rw];exact aD _
  ·rw[gR,fS,kD,Rx];exact aD _
  ·rw[gR,kD,Ry,eA,eA];have h1:=c _ _ f;have h2:=c _ _ g;have j:=se l (fT d) (iY l);have k:=se r (fT d+1) (iY r);have m:mG [bl 32,fx d,bl 32]=1:=rfl;omega
  ·rw[gR,kD,fS,Rz,fW,kq];have h1:=c _ _ f;have j:=se l 7 (iY l);omega
  ·have o:∀l:List Tr,(∀x∈l,RE e (b+1) x)->fF (chain l)<=mG (iY (chain l)):=λl=>by
    induction l with
    |nil=>intro _;show fF ce<=_;rw[kD];omega
    |cons x l p=>
     intro h;show fF (cc x (chain l))<=mG (iY (cc x (chain l)));rw[yM,Gh,eA,eA];have h1:=c _ _ (h x (by simp));have h2:=p (λy q=>h y (by simp[q]));omega
   rw[gR,fS,Kw,fW,Ql];rw[fW,kq,eA];have:=o xs i;omega
  ·rw[gR,kD,fS,RA,fW,kq,fW,kq,eA];have h1:=c _ _ f;omega
  ·rw[gR,kD,fS,RB,fW,kq,fW,kq,eA];have h1:=c _ _ f;omega
  ·rw[gR,kD,RD,eA,fW,kq,eA];have h1:=c _ _ f;have h2:=c _ _ g;have j:=se l 8 (iY l);omega
  ·rw[gR,fS,kD,RG];show 0+0+0+1<=3;omega
theorem yV(v:Tr):mG (iY v)<=mG (nl v):=by unfold nl;rw[fW,eA];omega
theorem sf(n:Nat)(g:Tr):mG (zg n g)<=mG (yu n g):=by unfold yu;rw[eA,eA];omega
theorem qD:∀(f d n:Nat)(xs:List Tr),(∀x∈xs,RS f d x)->kE (chain xs)<=mG (zg n (chain xs))
 |f,d,n,[],h=>by show kE ce<=_;rw[iG];omega
 |0,d,n,x::xs,h=>(h x (by simp)).elim
 |f+1,d,n,x::xs,h=>by
  have c:=qD (f+1) d n xs (λy e=>h y (by simp[e]));have g:=h x (by simp);show kE (cc x (chain xs))<=mG (zg n (cc x (chain xs)));rw[RS]at g;rcases g with⟨a,nm,v,-,⟨j,k⟩,rfl⟩|⟨a,nm,v,-,⟨j,k⟩,rfl⟩|⟨a,nm,i,v,-,⟨l,m⟩,⟨j,k⟩,rfl⟩|⟨a,v,o,el,-,⟨j,k⟩,p,q,rfl⟩|⟨a,v,o,-,⟨j,k⟩,p,rfl⟩|⟨a,v,⟨j,k⟩,rfl⟩|⟨a,v,⟨j,k⟩,rfl⟩|⟨a,b,nm,r,s,⟨j,t⟩,rfl⟩
  ·have h1:=l_ _ _ _ k;rw[ir,iG,fS,jK,eA,eA,eA,nw _ _ _ _ _ _ _ _ (by decide) (by decide),eA,eA,kq];omega
  ·have h1:=l_ _ _ _ k;rw[ir,iG,fS,jK,eA,eA,eA,nw _ _ _ _ _ _ _ _ (by decide) (by decide),eA,eA,kq];omega
  ·have h1:=l_ _ _ _ k;have h2:=l_ _ _ _ m;have u:mG (iY i)<=mG (kC 3 nm i):=by
    unfold kC;rw[if_neg (by decide),if_neg (by decide),if_pos rfl,fW ⟨0,nm⟩,eA,fW (fx [91]),eA];omega
   rw[ir,iG,jK,eA,eA,eA,nw _ _ _ _ _ _ _ _ (by decide) (by decide),eA,eA,kq];omega
  ·have h1:=l_ _ _ _ k;have h2:=qD f (d+1) (n+2) o p;have u:=qD f (d+1) (n+2) el q;have w:=yV v;have z:=sf (n+2) (chain o);have A:=sf (n+2) (chain el);rw[ir,fS,jK,eA,eA,eA,MN,eA,eA,eA];have B:mG [fx [105,102],bl 32]=1:=rfl;have C:kE (chain el)<=mG (if zm (chain el) then[] else[bl 32,fx [101,108,115,101]]++yu (n+2) (chain el)):=by
    cases el with
    |nil=>show kE ce<=_;rw[iG];omega
    |cons y el=>
     have:zm (chain (y::el))=false:=rfl;rw[this,if_neg (by simp),eA];omega
   omega
  ·have h1:=l_ _ _ _ k;have h2:=qD f (d+1) (n+2) o p;have w:=yV v;have z:=sf (n+2) (chain o);rw[ir,iG,fS,jK,eA,eA,eA,MO,eA,eA];have B:mG [fx [119,104,105,108,101],bl 32]=1:=rfl;omega
  ·have h1:=l_ _ _ _ k;rw[ir,iG,fS,jK,eA,eA,eA,nw _ _ _ _ _ _ _ _ (by decide) (by decide),eA,eA,kq];omega
  ·have h1:=l_ _ _ _ k;rw[ir,iG,fS,jK,eA,eA,eA,nw _ _ _ _ _ _ _ _ (by decide) (by decide),eA,eA,kq];omega
  ·have D:RE (j+1) 0 (nd 5 b 0 nm [] .nil .nil (chain r)):=by
    rw[RE];exact⟨by omega,.inr (.inr (.inr (.inr (.inl ⟨b,nm,r,s,t,rfl⟩))))⟩
   have h1:=l_ _ _ _ D;rw[ir,iG,fS,jK,eA,eA,eA,nw _ _ _ _ _ _ _ _ (by decide) (by decide),eA,eA,kq];omega
theorem Cr:∀a:List (By×Int),a.length<=mG (GW a)
 |[]=>aQ _
 |[x]=>by show 1<=mG (QD x);exact(by decide:1<=3)
 |x::y::xs=>by
  have b:=Cr (y::xs);have h1:mG (QD x)=3:=rfl;show(y::xs).length+1<=mG (QD x++(fx [44]::bl 32::GW (y::xs)));rw[eA,fW,fW (bl 32)];omega
theorem Cs{L:List eR}(h:∀F∈L,RF F){n:Nat}(a:(kv (IJ L)).length<=n):∀F∈L,kE F.body+F.ps.length<=n:=λF b=>by
 have h1:mG (GX F)<=mG (IJ L):=by
  have:∀l:List eR,F∈l->mG (GX F)<=mG (IJ l):=λl=>by
   induction l with
   |nil=>intro h;simp at h
   |cons G l c=>
    intro h;show _<=mG ((G::l).flatMap GX);rw[List.flatMap_cons,eA];rcases aY.1 h with rfl|h
    ·omega
    ·have:=c h;have e:mG (IJ l)=mG (l.flatMap GX):=rfl;omega
  exact this L b
 obtain⟨-,-,-,xs,e,d,f⟩:=h F b;have h2:mG (GW F.ps)+mG (yu 0 F.body)<=mG (GX F):=by
  unfold GX;rw[fW (fx [102,110]),fW (bl 32),fW ⟨0,F.nm⟩,eA,fW (fx [40]),eA,eA];omega
 have g:=sf 0 F.body;have i:=qD e 1 0 xs f;rw[<-d]at i;have j:=Cr F.ps;have k:mG (IJ L)<=n:=a;omega
end Go.Proofs.YtnfhpdbbfejioaaGreatDoor.Mid.Sf
namespace Go.Proofs.YtnfhpdbbfejioaaGreatDoor
open Go Go.RowKit
open Mid.Sf in
theorem vL:∀(e d:Nat)(t:Tr),RE e d t->fF t<=1000000->fD t
 |0,d,t,h,_=>h.elim
 |e+1,d,t,h,b=>by
  have c:=λd t h b=>vL e d t h b;have nd:=fun{d t} (h:RE e d t)=>oB h;rw[RE]at h;rcases h.2 with⟨a,n,f,g,rfl⟩|⟨a,nm,-,rfl⟩|⟨a,i,l,r,-,j,k,rfl⟩|⟨a,i,l,-,j,rfl⟩|⟨a,nm,xs,-,m,rfl⟩|⟨a,l,j,rfl⟩|⟨a,l,j,rfl⟩|⟨a,l,r,j,k,rfl⟩|⟨a,rfl⟩
  ·exact kS (xs:=[]) (by omega) (by omega) (by omega) g (.inl rfl) (.inl rfl) iu iu kT rfl (by simp)
  ·exact kS (xs:=[]) (by omega) (by omega) (by omega) (by omega) (.inl rfl) (.inl rfl) iu iu kT rfl (by simp)
  ·rw[gR]at b;exact kS (xs:=[]) (by omega) (by omega) (by omega) (by omega) (.inr (nd j)) (.inr (nd k)) (c _ _ j (by omega)) (c _ _ k (by omega)) kT rfl (by simp)
  ·rw[gR]at b;exact kS (xs:=[]) (by omega) (by omega) (by omega) (by omega) (.inr (nd j)) (.inl rfl) (c _ _ j (by omega)) iu kT rfl (by simp)
  ·rw[gR]at b;have o:∀l:List Tr,(∀x∈l,RE e (d+1) x)->fF (chain l)<=1000000->fD (chain l)/\l.length<=fF (chain l):=λl=>by
    induction l with
    |nil=>intro _ _;exact⟨kT,aQ _⟩
    |cons x l p=>
     intro h b;have q:fF (cc x (chain l))<=1000000:=b;rw[yM]at q;have m:=h x (by simp);obtain⟨s,u⟩:=p (λy v=>h y (by simp[v])) (by omega);have w:=fG m;refine⟨?_,?_⟩
     ·show fD (cc x (chain l));rw[fD];exact⟨nd m,c _ _ m (by omega),s⟩
     ·show l.length+1<=fF (cc x (chain l));rw[yM];omega
   obtain⟨s,u⟩:=o xs m (by omega);exact kS (xs:=xs) (by omega) (by omega) (by omega) (by omega) (.inl rfl) (.inl rfl) iu iu s rfl (by omega)
  ·rw[gR]at b;exact kS (xs:=[]) (by omega) (by omega) (by omega) (by omega) (.inr (nd j)) (.inl rfl) (c _ _ j (by omega)) iu kT rfl (by simp)
  ·rw[gR]at b;exact kS (xs:=[]) (by omega) (by omega) (by omega) (by omega) (.inr (nd j)) (.inl rfl) (c _ _ j (by omega)) iu kT rfl (by simp)
  ·rw[gR]at b;exact kS (xs:=[]) (by omega) (by omega) (by omega) (by omega) (.inr (nd j)) (.inr (nd k)) (c _ _ j (by omega)) (c _ _ k (by omega)) kT rfl (by simp)
  ·exact kS (xs:=[]) (by omega) (by omega) (by omega) (by omega) (.inl rfl) (.inl rfl) iu iu kT rfl (by simp)
open Mid.Sf in
theorem pR:∀(f d:Nat)(xs:List Tr),(∀x∈xs,RS f d x)->kE (chain xs)<=1000000->fV (chain xs)/\qw (chain xs)<=kE (chain xs)
 |f,d,[],h,_=>⟨qh,aQ _⟩
 |0,d,x::xs,h,_=>(h x (by simp)).elim
 |f+1,d,x::xs,h,g=>by
  have j:=h x (by simp);have l:kE (cc x (chain xs))<=1000000:=g;have m:=λ(k:kE (chain xs)<=1000000)=>pR (f+1) d xs (λy n=>h y (by simp[n])) k;have o:∀(c a:Int)(nm:By)(ix v p el:Tr),x=st c a nm ix v p el->1<=c->c<=8->(ix= .nil\/∃e,RE e 1 ix)->(∃e d,RE e d v)->(kE p<=1000000->fV p/\qw p<=kE p)->(kE el<=1000000->fV el/\qw el<=kE el)->fV (cc x (chain xs))/\qw (cc x (chain xs))<=kE (cc x (chain xs)):=λc a nm ix v p el e q r s t u w=>by
   subst e;rw[ir]at l⊢;obtain⟨A,B⟩:=m (by omega);obtain⟨C,D⟩:=u (by omega);obtain⟨E,F⟩:=w (by omega);obtain⟨G,H,t⟩:=t;have I:(ix= .nil\/fw ix)/\fD ix:=by
    rcases s with rfl|⟨e,s⟩
    ·exact⟨.inl rfl,iu⟩
    ·exact⟨.inr (oB s),vL _ _ _ s (by omega)⟩
   refine⟨tM q r I.1 I.2 (.inr (oB t)) (vL _ _ _ t (by omega)) C (by omega) E (by omega) A,?_⟩;show qw (chain xs)+1<=_;omega
  have z:kE ce<=1000000->fV ce/\qw ce<=kE ce:=λ_=>⟨qh,aQ _⟩;rw[RS]at j;rcases j with⟨a,nm,v,-,⟨G,t⟩,e⟩|⟨a,nm,v,-,⟨G,t⟩,e⟩|⟨a,nm,i,v,-,s,⟨G,t⟩,e⟩|⟨a,v,p,el,-,⟨G,t⟩,J,K,e⟩|⟨a,v,p,-,⟨G,t⟩,J,e⟩|⟨a,v,⟨G,t⟩,e⟩|⟨a,v,⟨G,t⟩,e⟩|⟨a,b,nm,L,M,⟨G,N⟩,e⟩
  ·exact o _ _ _ _ _ _ _ e (by omega) (by omega) (.inl rfl) ⟨_,_,t⟩ z z
  ·exact o _ _ _ _ _ _ _ e (by omega) (by omega) (.inl rfl) ⟨_,_,t⟩ z z
  ·exact o _ _ _ _ _ _ _ e (by omega) (by omega) (.inr s) ⟨_,_,t⟩ z z
  ·exact o _ _ _ _ _ _ _ e (by omega) (by omega) (.inl rfl) ⟨_,_,t⟩ (pR f _ _ J) (pR f _ _ K)
  ·exact o _ _ _ _ _ _ _ e (by omega) (by omega) (.inl rfl) ⟨_,_,t⟩ (pR f _ _ J) z
  ·exact o _ _ _ _ _ _ _ e (by omega) (by omega) (.inl rfl) ⟨_,_,t⟩ z z
  ·exact o _ _ _ _ _ _ _ e (by omega) (by omega) (.inl rfl) ⟨_,_,t⟩ z z
  ·refine o _ _ _ _ _ _ _ e (by omega) (by omega) (.inl rfl) ⟨G+1,0,?_⟩ z z;rw[RE];exact⟨by omega,.inr (.inr (.inr (.inr (.inl ⟨b,nm,L,M,N,rfl⟩))))⟩
theorem xL:∀(f n:Nat){l a:List eD}{t:Tr},n<=12->ja f n l= .ok (t,a)->∃xs,t=chain xs/\n+xs.length<=12
 |0,n,l,a,t,b,h=>by simp[ja]at h
 |f+1,n,l,a,t,b,h=>by
  rw[ja]at h;split at h
  ·obtain⟨rfl,rfl⟩:=eV h;exact⟨[],rfl,b⟩
  split at h
  ·cases h
  ·obtain⟨x,c,h1,h⟩:=ee h;obtain⟨g,d,h2,h⟩:=ee h;obtain⟨xs,rfl,q⟩:=xL f (n+1) (by omega) h2;obtain⟨rfl,rfl⟩:=eV h;exact⟨x::xs,rfl,by simp;omega⟩
theorem Bt{s:By}{t:Tr}(a:s.length<=1000000)(h:gK s= .ok t):∃L:List eR,t=chain (L.map eR.tr)/\(∀F∈L,qF F/\RF F)/\L.length<=12/\∃l,qW s= .ok l/\(kv (IJ L)).length+1<=l.length:=by
 obtain⟨l,c,b,d⟩:=yX h;obtain⟨f,g⟩:=wR b a;obtain⟨L,rfl,i,j⟩:=BQ _ 0 (Px b) f d;obtain⟨xs,k,m⟩:=xL _ 0 (by omega) d;have o:=lf k;have p:=Mid.Sf.Cs i (n:=1501) (by omega);refine⟨L,rfl,λF q=>⟨?_,i F q⟩,?_,l,b,j⟩
 ·obtain⟨-,-,-,r,e,u,v⟩:=i F q;have h1:=p F q;rw[u]at h1;obtain⟨w,x⟩:=pR e 1 r v (by omega);unfold qF;rw[u];exact⟨w,by omega,by omega⟩
 ·rw[<-o,cX]at m;omega
theorem rY{s:By}{L:List eR}(a:s.length<=1000000)(h:gK s= .ok (chain (L.map eR.tr))):(∀F∈L,qF F/\RF F)/\L.length<=12/\∃l,qW s= .ok l/\(kv (IJ L)).length+1<=l.length:=by
 obtain⟨b,c,h1⟩:=Bt a h;have:=wF c;subst this;exact h1
theorem lG{w:jW}{v:jU}{L:List eR}(h:MB w v L):ze (Lo w.heap.size) w v L:=by
 obtain⟨n,cs,a,c⟩:=h;obtain⟨d,e,f,g⟩:=sH _ cs c;have:=wF e;subst this;have i:n=L.length:=by have:=a.1;omega
 subst i;have:ze pd w v L:=⟨cs,⟨a,λ_ _=>trivial⟩,g⟩;exact this.mono (λb _ j=>j)
theorem sO{s:By}(a:s.length<=1000000){L:List eR}(h:gK s= .ok (chain (L.map eR.tr)))(w:jW)(v:jU)(b:MB w v L):aA 16 #[v] w (Lq (chk L) w):=uW w v L (lG b) (rY a h).2.1 (rY a h).1
end Go.Proofs.YtnfhpdbbfejioaaGreatDoor
namespace Go.Proofs.YtnfhpdbbfejioaaGreatDoor.Mid
open Go Go.RowKit
variable {c:jU}{w w':jW}
def xE(r:X Bool)(c:jU)(w:jW):Prop:=(r= .ok false/\c= .iface 46 (jV 8))\/∃k a b,r= .error (k,a)/\c= .iface 72 (jP b)/\w.heap[b]?=some (jC #[jV k,jV a] 139)
theorem xE.below{r:X Bool}(h:xE r c w)(d:az w w'):xE r c w':=by
 rcases h with h|⟨k,a,b,h1,h2,e⟩
 ·exact .inl h
 ·exact .inr ⟨k,a,b,h1,h2,(d.block b (aC.1 e).1).trans e⟩
theorem Q5(v:jU)(w:jW):(binOp .neq 34 (.iface 46 v) .nilIface).run Tryz.prog w= .ok (.bool true) w:=by kernel_rfl
theorem Mt(v:jU)(w:jW):(binOp .neq 34 (.iface 72 v) .nilIface).run Tryz.prog w= .ok (.bool true) w:=by kernel_rfl
theorem Bb{r:X Bool}(h:xE r c w)(W:jW):(binOp .neq 34 c .nilIface).run Tryz.prog W= .ok (.bool true) W:=by
 rcases h with⟨_,rfl⟩|⟨k,a,b,_,rfl,_⟩
 ·exact Q5 _ _
 ·exact Mt _ _
theorem Bc{r:X Bool}(c:r≠.ok true){e:Ending}(h:Lq r w e w'):(∃d,e=jR d/\xE r d w')/\az w w':=by
 obtain⟨h|⟨h1,h2⟩|⟨k,a,b,h1,h2,f⟩,g⟩:=h
 ·exact absurd h.1 c
 ·exact⟨⟨_,h2,.inl ⟨h1,rfl⟩⟩,g⟩
 ·exact⟨⟨_,h2,.inr ⟨k,a,b,h1,rfl,f⟩⟩,g⟩
theorem CN(w:jW)(v:jU)(r:X Bool)(c:r≠.ok true)(d:∀W,az w W->aA 16 #[v] W (Lq r W)):aA 20 #[v] w λe w'=>(∃g,e=jR (.tuple #[jQ none,g])/\xE r g w')/\az w w':=by
 have j:∀(l:Fn)(first m:Array Value)(w:jW),(Instr.makeFunc l first m).run Tryz.prog w= .ok (.func l first m) w:=λ_ _ _ _=>rfl;obtain⟨W0,n⟩:=aB ((w.alloc (jC #[jQ none] 43)).alloc (jC #[.nilIface] 34));have o:W0.heap.size=w.heap.size+2:=by rw[n];simp
 have q:az w W0:=by rw[n];exact((eL w _).trans ((eL _ _).mono (by simp)))
 have s:W0.heap[w.heap.size]?=some (jC #[jQ none] 43):=by
  rw[n,ed (by simp)];exact heap_alloc_last _ _
 have t:W0.heap[w.heap.size+1]?=some (jC #[.nilIface] 34):=by
  rw[n];have:=heap_alloc_last (w.alloc (jC #[jQ none] 43)) (jC #[.nilIface] 34);simpa using this
 obtain⟨u,y,z,A⟩:=j4 (d W0 q) (jN s t) (jN o q) c;clear d o q s t c
 go_enter_defers Tryz.func20,Tryz.ntmps20
 go_wp2_with(go_at_call 16;fail)
 rw[<-n];clear n;refine u.mono ?_;rintro e w1 B;obtain⟨⟨g,rfl,C⟩,D⟩:=Bc A B;have E:=jI C;have F:=jI D;have G:=Bb C;have H:w1.heap[w.heap.size]?=some (jC #[jQ none] 43):=(D.block _ (by have:=z.out.1;omega)).trans y.out.1;have I:w1.heap[w.heap.size+1]?=some (jC #[.nilIface] 34):=(D.block _ (by have:=z.out.1;omega)).trans y.out.2;have J:=jc 0 H;have K:=jc 0 I;have L:=ea H 0;have M:=ea I 0;have N:Hid (((w1.setCell (jA w.heap.size) (jQ none)).setCell ⟨w.heap.size+1,0,none⟩ g).cell? (jA w.heap.size)=some (jQ none)/\((w1.setCell (jA w.heap.size) (jQ none)).setCell ⟨w.heap.size+1,0,none⟩ g).cell? ⟨w.heap.size+1,0,none⟩=some g/\(xE r g ((w1.setCell (jA w.heap.size) (jQ none)).setCell ⟨w.heap.size+1,0,none⟩ g))/\az w ((w1.setCell (jA w.heap.size) (jQ none)).setCell ⟨w.heap.size+1,0,none⟩ g)):=by
  have O:(w1.setCell (jA w.heap.size) (jQ none)).heap[w.heap.size]?=some (jC #[jQ none] 43):=aH _ _ _ _ _ _ H;have P:(w1.setCell (jA w.heap.size) (jQ none)).heap[w.heap.size+1]?=some (jC #[.nilIface] 34):=kU I (by omega);have Q:((w1.setCell (jA w.heap.size) (jQ none)).setCell ⟨w.heap.size+1,0,none⟩ g).heap[w.heap.size]?=some (jC #[jQ none] 43):=kU O (by omega);have S:((w1.setCell (jA w.heap.size) (jQ none)).setCell ⟨w.heap.size+1,0,none⟩ g).heap[w.heap.size+1]?=some (jC #[g] 34):=aH _ _ _ _ _ _ P;refine⟨jc 0 Q,jc 0 S,?_,?_⟩
  ·rcases E with h|⟨k,a,b,h1,h2,T⟩
   ·exact .inl h
   ·refine .inr ⟨k,a,b,h1,h2,kU (kU T ?_) ?_⟩
    ·intro e;rw[e,H]at T;injection T with T;injection T with _ T;cases T
    ·intro e;rw[e,I]at T;injection T with T;injection T with _ T;cases T
  ·have h1:=z.out.2.trans (F.mono z.out.2.size);exact(h1.setCell (p:=(jA w.heap.size)) (aD _) _).setCell (p:=⟨w.heap.size+1,0,none⟩) (dK _) _
 have U:(∃x,g= .iface 46 (jV x))\/∃b,g= .iface 72 (jP b):=by
  rcases C with⟨-,h⟩|⟨k,a,b,-,h,-⟩
  ·exact .inl ⟨_,h⟩
  ·exact .inr ⟨b,h⟩
 clear C D B H I;rcases U with⟨x,rfl⟩|⟨b,rfl⟩
 all_goals
  go_wp2_with fail
  refine bP (f:=42) (args:=#[ptr w.heap.size,ptr (w.heap.size+1)]) (by simp) (by simp[go_sem]) ?_
  refine(yC w.heap.size (w.heap.size+1) _).mono ?_;rintro e V Y ⟨rfl,rfl,rfl⟩;exact⟨_,MQ _ _ w.heap.size (w.heap.size+1) _ _ rfl rfl N.out.1 N.out.2.1,⟨_,rfl,N.out.2.2.1⟩,N.out.2.2.2⟩
end Go.Proofs.YtnfhpdbbfejioaaGreatDoor.Mid
