/- CB CC CD CE CF CG CH CI CL CJ CK CM CN -/
import Derived.Test.YtnfhpdbbfejioaaGreatDoorJ08
set_option linter.unusedVariables false
set_option linter.unusedSimpArgs false
set_option maxRecDepth 100000
set_option maxHeartbeats 16000000
namespace Go.Proofs.YtnfhpdbbfejioaaGreatDoor
open Go Go.RowKit
variable {w w':jW}{C b k d B f e z:Nat}{a n:Int}{mv v:jU}{ns:Nm}{nm c:By}{cs:Array Value}{xs:List Tr}{t l r g el:Tr}{q:jO}{S:Nat->Prop}
def o7(k a:Int)(e:Ending)(w':jW):Prop:=∃b,e= .panicked [{v:= .iface 72 (jP b),recovered:=false}]/\w'.heap[b]?=some (jC #[jV k,jV a] 139)
theorem jp(k a:Int)(w:jW):aA 64 #[jV k,jV a] w λe w'=>o7 k a e w'/\az w w':=by
 go_enter Tryz.func64,Tryz.ntmps64;go_wp2;exact⟨rfl,⟨_,rfl,heap_alloc_last w _⟩,(aJ _ _).alloc (aD _) _⟩
theorem Fc(y:ByteArray)(k:Int)(b:Nat)(nm:ByteArray)(w:jW)(h:w.cell? (jA b)=some (jT nm)):aA 155 #[.agg #[jT y,jV k],jP b] w λe w'=>e=jR (.bool (decide (y=nm)))/\az w w':=by
 have a:(w.alloc (jC #[jT y,jV k] 144)).cell? (jA b)=some (jT nm):=(((aJ w.heap.size w).alloc (aD _) _).cell (aV w _ h)).trans h;have c:Hid (az w (w.alloc (jC #[jT y,jV k] 144))):=(aJ _ _).alloc (aD _) _;by_cases e:y=nm
 ·subst e;go_enter Tryz.func155,Tryz.ntmps155;go_wp2;go_ret;exact⟨by simp,c⟩
 ·have d:=ox e;have f:decide (y=nm)=false:=by simpa using e
  rw[f];clear f e;go_enter Tryz.func155,Tryz.ntmps155;go_wp2;go_ret;exact⟨rfl,c⟩
def Iz(nm:By):Nm->Option Nat
 |[]=>none
 |x::ns=>if x.1=nm then some 0 else(Iz nm ns).map (·+1)
def IA(ns:Nm)(nm:By):Int:=match Iz nm ns with|some i=>i|none=> -1
theorem Fd(nm:By):∀(ns:Nm)(i:Nat)(x:By×Int),ns[i]?=some x->x.1=nm->(∀j y,j<i->ns[j]?=some y->¬y.1=nm)->Iz nm ns=some i
 |[],i,x,h,_,_=>by simp at h
 |z::ns,0,x,h,a,_=>by
  simp at h;subst h;rw[Iz,if_pos a]
 |z::ns,i+1,x,h,a,b=>by
  rw[Iz,if_neg (b 0 z (by omega) rfl),Fd nm ns i x (by simpa using h) a (λj y c d=>b (j+1) y (by omega) (by simpa using d))];rfl
theorem Bp(nm:By):∀(ns:Nm),(∀j y,j<ns.length->ns[j]?=some y->¬y.1=nm)->Iz nm ns=none
 |[],_=>rfl
 |z::ns,a=>by
  rw[Iz,if_neg (a 0 z (by simp) rfl),Bp nm ns (λj y b c=>a (j+1) y (by simpa using b) (by simpa using c))];rfl
theorem Fe(nm:By):∀(ns:Nm),(∃i x,Iz nm ns=some i/\ns[i]?=some x/\i<ns.length/\gP ns nm=some x.2)\/(Iz nm ns=none/\gP ns nm=none)
 |[]=> .inr ⟨rfl,rfl⟩
 |z::ns=>by
  unfold gP;rw[Iz,bX];by_cases h:z.1=nm
  ·have:(z.1==nm)=true:=by simpa using h
   rw[if_pos h,this];exact .inl ⟨0,z,rfl,rfl,by simp,rfl⟩
  ·have:(z.1==nm)=false:=by simpa using h
   rw[if_neg h,this];rcases Fe nm ns with⟨i,x,h1,h2,a,b⟩|⟨h1,h2⟩
   ·exact .inl ⟨i+1,x,by rw[h1];rfl,by simpa using h2,by simpa using a,b⟩
   ·exact .inr ⟨by rw[h1];rfl,h2⟩
theorem CQ(ns:Nm)(v:jU)(B b:Nat)(nm:ByteArray)(w:jW)(a:w.ownsRow B 144 2 v ns.length (lA ns))(d:ns.length<=1000)(h:w.cell? (jA b)=some (jT nm)):
  aA 154 #[v,.func (.func 155) #[] #[jP b]] w λe w'=>e=jR (jV (IA ns nm.data.toList))/\az w w':=by
 obtain⟨q,c,rfl⟩:=eh a;have f:=jI a;have k:=jI (λW (l:az w W)=>(l.cell (aV w _ h)).trans h);obtain⟨n,m⟩:=aB ns.length;have o:=jI m;rw[<-m]at f d⊢;clear a m h;go_enter Tryz.func154,Tryz.ntmps154
 go_wp2_with fail
 go_loopw [8] (λv wr=>∃i:Nat,i<=n/\v=jV i/\Hid (∀j y,j<i->ns[j]?=some y->¬y.1=nm.data.toList)/\Hid (az w wr)) (λv _=>n-(intOf v).toNat)
 case atStart=>exact⟨0,aQ _,rfl,λj y p=>by omega,aJ _ _⟩
 case round=>
  obtain⟨i,r,rfl,s,t⟩:=hrel;by_cases u:i<n
  ·obtain⟨g,A,e,-,-⟩:=f.form (by omega);injection e with e1 e2 e3;subst e1;clear e2 e3;obtain⟨x,C⟩:∃x,ns[i]?=some x:=⟨ns[i]'(by have:=o.out;omega),aI (by have:=o.out;omega)⟩;obtain⟨D,E⟩:=kV ns i x C;obtain⟨y,F,G⟩:=fU x.1;rw[F]at D;have H:=f.kept (iN t) (.inr (by simp[Value.ownBlock]));have I:wr.cell? (jB g (i*2))=some (jT y):=by
    have:=H.cells (g:=g) rfl (i*2) _ D;rw[gv]at this;exact this
   have J:wr.cell? (jB g (i*2+1))=some (jV x.2):=by
    have:=H.cells (g:=g) rfl (i*2+1) _ E;rw[gv]at this;exact this
   generalize x.2=ty at J;have K:=jI (Fc y ty b nm wr (k wr t));have L:=jI (jN C G);clear H D E C F G;by_cases M:y=nm
   ·have hd:decide (y=nm)=true:=by simpa using M
    rw[hd]at K;have N:Hid (IA ns nm.data.toList=(i:Int)):=by
     show _=_;unfold IA;rw[Fd nm.data.toList ns i x L.out.1 (by rw[<-L.out.2,M]) s]
    clear hd M
    go_wp2_with(go_at_call 155;refine K.mono ?_;rintro e w1 ⟨rfl,l⟩;have O:Hid (az w w1):=t.trans (l.mono t.size);clear l)
    go_ret;exact⟨by rw[N.out];rfl,O⟩
   ·have hd:decide (y=nm)=false:=by simpa using M
    rw[hd]at K;have P:Hid (∀j y,j<i+1->ns[j]?=some y->¬y.1=nm.data.toList):=λj z p Q=>by
     rcases bG j i with S|S
     ·exact s j z S Q
     ·obtain rfl:j=i:=by omega
      rw[L.out.1]at Q;injection Q with Q;subst Q;rw[<-L.out.2];exact λe=>M (zQ e)
    clear hd M
    go_wp2_with(go_at_call 155;refine K.mono ?_;rintro e w1 ⟨rfl,l⟩;have O:Hid (az w w1):=t.trans (l.mono t.size);clear l)
    exact⟨⟨i+1,by omega,by go_num,P,O⟩,by simp[intOf];omega⟩
  ·obtain rfl:i=n:=by omega
   have N:Hid (IA ns nm.data.toList= -1):=by
    show _=_;unfold IA;rw[Bp nm.data.toList ns (λj y p F=>s.out j y (by rw[o.out];exact p) F)]
   clear u;go_wp2;go_ret;exact⟨by rw[N.out];rfl,t⟩
structure qR (w:jW) (C:Nat) (fv mv nv:jU) (ns:Nm) (k:Nat):Prop where
 blk:w.heap[C]?=some (jC #[fv,mv,nv,jV (k:Int)] 96)
 row:w.ownsRow (C+1) 144 2 nv ns.length (lA ns)
 le:ns.length<=k
 k12:k<=12
theorem qR.below{a b:jU}(h:qR w C a mv b ns k)(c:az w w'):qR w' C a mv b ns k:=
 ⟨by rw[c.block C (aC.1 h.blk).1];exact h.blk,h.row.kept (iN c) (by cases b.ownBlock<;>simp),h.le,h.k12⟩
theorem qR.lt{a b:jU}(h:qR w C a mv b ns k):C<w.heap.size:=(aC.1 h.blk).1
theorem xh{a b:jU}(h:qR w C a mv b ns k)(nm:ByteArray):
  aA 102 #[jP C,jT nm] w λe w'=>e=jR (jV (IA ns nm.data.toList))/\az w w':=by
 have d:∀(f:Fn)(first g:Array Value)(w:jW),(Instr.makeFunc f first g).run Tryz.prog w= .ok (.func f first g) w:=λ_ _ _ _=>rfl;obtain⟨q,c,rfl⟩:=eh h.row;have j:az w (w.alloc (jC #[jT nm] 9)):=(aJ _ _).alloc (aD _) _;have h1:=h.below j;have l:=jc 2 h1.blk;have m:Hid (aA 154 #[jL q ns.length c,.func (.func 155) #[] #[jP w.heap.size]] (w.alloc (jC #[jT nm] 9)) λe w'=>e=jR (jV (IA ns nm.data.toList))/\Below (w.alloc (jC #[jT nm] 9)).heap.size (w.alloc (jC #[jT nm] 9)) w'):=
  CQ ns _ (C+1) w.heap.size nm _ h1.row (by have:=h.le;have:=h.k12;omega) (jc 0 (heap_alloc_last w _))
 have o:=jI (λw' (p:Below (w.alloc (jC #[jT nm] 9)).heap.size (w.alloc (jC #[jT nm] 9)) w')=>j.trans (p.mono (by simp)));generalize ns.length=n at*;clear h h1 j;go_enter Tryz.func102,Tryz.ntmps102
 go_wp2_with(go_at_call 154;refine m.mono ?_;rintro e w1 ⟨rfl,p⟩;have r:Hid (az w w1):=o _ p;clear p)
 go_ret;exact⟨rfl,r⟩
theorem ED:(∃(i:Nat)(x:By×Int),IA ns nm=(i:Int)/\ns[i]?=some x/\i<ns.length/\gP ns nm=some x.2)\/(IA ns nm= -1/\gP ns nm=none):=by
 unfold IA;rcases Fe nm ns with⟨i,x,h1,h2,a,b⟩|⟨h1,h2⟩
 ·exact .inl ⟨i,x,by rw[h1],h2,a,b⟩
 ·exact .inr ⟨by rw[h1],h2⟩
def Ti(r:Option Int)(a:Int)(e:Ending)(w':jW):Prop:=(∃t,r=some t/\e=jR (jV t))\/(r=none/\o7 7 a e w')
theorem mI{c d:jU}(h:qR w C c mv d ns k)(nm:ByteArray)(a:Int):
  aA 158 #[jP C,jT nm,jV a] w λe w'=>Ti (gP ns nm.data.toList) a e w'/\az w w':=by
 have f:=jI (xh h nm);have j:=jI h;rcases ED (ns:=ns) (nm:=nm.data.toList) with⟨i,x,l,m,o,p⟩|⟨l,m⟩
 ·rw[l]at f;obtain⟨ty,q⟩:∃ty,x.2=ty:=⟨_,rfl⟩;rw[q]at p;rw[p];have r:=jI q;have s:=jI (jN m o);have t:ns.length<=12:=by have:=h.le;have:=h.k12;omega
  obtain⟨n,u⟩:=aB ns.length;rw[<-u]at o t;have v:=jI u;clear h l m p u q;go_enter Tryz.func158,Tryz.ntmps158
  go_wp2_with(go_at_call 102;fail)
  refine f.mono ?_;rintro e w1 ⟨rfl,y⟩;have z:=j.below y;have A:=jI y;have B:=z.row;obtain⟨g,D,E,-,-⟩:=B.form (by have:=s.out.2;omega);rw[E]at B z;obtain⟨F,G⟩:=kV ns i x s.out.1;have H:w1.cell? (jB g (i*2+1))=some (jV x.2):=by
   have:=B.cells (g:=g) rfl (i*2+1) _ G;rw[gv]at this;exact this
  have I:=jc 2 z.blk;rw[<-v.out]at I;rw[r.out]at H;clear y z B F G E;go_wp2;go_ret;exact⟨.inl ⟨ty,rfl,rfl⟩,A⟩
 ·rw[l]at f;rw[m];clear h l m;go_enter Tryz.func158,Tryz.ntmps158
  go_wp2_with(go_at_call 102;fail)
  refine f.mono ?_;rintro e w1 ⟨rfl,y⟩;have A:=jI y;clear y
  go_wp2_with(go_at_call 64;fail)
  refine(jp 7 a w1).mono ?_;rintro e J ⟨⟨b,rfl,K⟩,y⟩;exact⟨rfl,.inr ⟨rfl,b,rfl,K⟩,A.trans (y.mono A.size)⟩
def Kt(w w':jW):Prop:=∀(b:Nat)(cs:Array Value)(t:TypeId),t≠96->t≠144->w.heap[b]?=some (.cells cs t)->w'.heap[b]?=some (.cells cs t)
theorem Kt.trans{a b c:jW}(h:Kt a b)(g:Kt b c):Kt a c:=λk cs t h1 h2 hk=>g k cs t h1 h2 (h k cs t h1 h2 hk)
theorem fp(h:az w w'):Kt w w':=λb cs t _ _ a=>by rw[h.block b (aC.1 a).1];exact a
theorem Ag{i:Nat}(h:w.heap[C]?=some (.cells cs 96)):Kt w (w.setCell (jB C i) v):=λb ds t h1 _ a=>by
 rw[aG _ _ _ _ (by
  show b≠C;intro e;rw[e,h]at a;injection a with a;injection a with _ h2;exact h1 h2.symm)]
 exact a
theorem Hh{n:Nat}{xs:jE}(h:w.grownBy w' v.ownBlock)(a:w.ownsRow B 144 2 v n xs):Kt w w':=λb ds t _ h2 c=>by
 rw[h.block b (aC.1 c).1 (λe=>by
  rcases a.2 with⟨d,_⟩|⟨g,f,i,d,_,j,_⟩
  ·rw[d]at e;cases e
  ·rw[d]at e;injection e with e;have k:=e;rw[k,j]at c;injection c with c;injection c with _ h4;exact h2 h4.symm)]
 exact c
def qK(r:X (Nm×Nat))(C:Nat)(b mv:jU)(w:jW)(e:Ending)(w':jW):Prop:=
 ((∃ns k c,r= .ok (ns,k)/\e=jR (.tuple #[])/\qR w' C b mv c ns k)\/(∃k a,r= .error (k,a)/\o7 k a e w'))/\Below C w w'/\Kt w w'
theorem qx{c d:jU}(h:qR w C c mv d ns k)(nm:ByteArray)(ty a:Int):
  aA 65 #[jP C,.agg #[jT nm,jV ty],jV a] w (qK (kW (ns,k) (nm.data.toList,ty) a) C c mv w):=by
 obtain⟨W0,f⟩:=aB (w.alloc (jC #[jT nm,jV ty] 144));have g:az w W0:=by rw[f];exact(aJ _ _).alloc (aD _) _
 have j:W0.heap[w.heap.size]?=some (jC #[jT nm,jV ty] 144):=by rw[f];exact heap_alloc_last w _
 have l:=h.below g;obtain⟨m,o,r,s,v⟩:=j5 (xh l nm) l j g h.lt;have y:Hid (∀e w',qK (kW (ns,k) (nm.data.toList,ty) a) C c mv w e w'->qK (kW (ns,k) (nm.data.toList,ty) a) C c mv w e w'):=λ_ _ h=>h;generalize z:qK (kW (ns,k) (nm.data.toList,ty) a) C c mv w=G at*;clear y;have y:Hid (∀e w',qK (kW (ns,k) (nm.data.toList,ty) a) C c mv w e w'->G e w'):=λe w' h=>by rw[<-z];exact h
 have A:=h.k12;have B:(w.alloc (jC #[jT nm,jV ty] 144)).cell? (jA w.heap.size)=some (jT nm):=jc 0 (heap_alloc_last w _);clear g j l h z;rcases ED (ns:=ns) (nm:=nm.data.toList) with⟨i,x,D,E,F,H⟩|⟨D,E⟩
 ·rw[D]at m;have I:Hid (kW (ns,k) (nm.data.toList,ty) a= .error (9,a)):=by
   show _=_;unfold kW;rw[if_pos (by rw[show gP (ns,k).1 (nm.data.toList,ty).1=gP ns nm.data.toList from rfl,H];rfl)]
  clear D E F H;go_enter Tryz.func65,Tryz.ntmps65
  go_wp2_with(go_at_call 102;fail)
  rw[<-f];clear f B;refine m.mono ?_;rintro e w1 ⟨rfl,J⟩;have K:=jI (s.trans (J.mono s.size));clear J
  go_wp2_with(go_at_call 64;fail)
  refine(jp 9 a w1).mono ?_;rintro e L ⟨⟨b,rfl,M⟩,J⟩;exact⟨rfl,y _ _ ⟨.inr ⟨9,a,I,b,rfl,M⟩,(K.trans (J.mono K.size)).mono (aL v),fp (K.trans (J.mono K.size))⟩⟩
 ·rw[D]at m;by_cases N:k=12
  ·have I:Hid (kW (ns,k) (nm.data.toList,ty) a= .error (12,a)):=by
    show _=_;unfold kW;rw[if_neg (by rw[show gP (ns,k).1 (nm.data.toList,ty).1=gP ns nm.data.toList from rfl,E];simp),if_pos N]
   subst N;clear D E;go_enter Tryz.func65,Tryz.ntmps65
   go_wp2_with(go_at_call 102;fail)
   rw[<-f];clear f B;refine m.mono ?_;rintro e w1 ⟨rfl,J⟩;have K:=jI (s.trans (J.mono s.size));have O:=eo (i:=3) (o.below J).blk rfl;clear J
   go_wp2_with(go_at_call 64;fail)
   refine(jp 12 a w1).mono ?_;rintro e L ⟨⟨b,rfl,M⟩,J⟩;exact⟨rfl,y _ _ ⟨.inr ⟨12,a,I,b,rfl,M⟩,(K.trans (J.mono K.size)).mono (aL v),fp (K.trans (J.mono K.size))⟩⟩
  ·have I:Hid (kW (ns,k) (nm.data.toList,ty) a= .ok (ns++[(nm.data.toList,ty)],k+1)):=by
    show _=_;unfold kW;rw[if_neg (by rw[show gP (ns,k).1 (nm.data.toList,ty).1=gP ns nm.data.toList from rfl,E];simp),if_neg N]
   have P:((k:Int)==12)=false:=by simp;omega
   clear D E;obtain⟨Q,S,T,U,V⟩:=info_parts Ez;go_enter Tryz.func65,Tryz.ntmps65
   go_wp2_with(go_at_call 102;fail)
   rw[<-f];clear f B;refine m.mono ?_;rintro e w1 ⟨rfl,J⟩;have K:=jI (s.trans (J.mono s.size));have W:=o.below J;obtain⟨q,Y,rfl⟩:=eh W.row;have Z:w1.heap[w.heap.size]?=some (jC #[jT nm,jV ty] 144):=by rw[J.block _ (aC.1 r.out).1];exact r
   have d:=jc 2 W.blk;have O:=jc 3 W.blk;have A:=jc 0 Z;have g:=jc 1 Z;have j:=ea W.blk 3;have l:=jI W;have z:=jI Z;clear J W Z
   go_wp2_with fail
   obtain⟨W2,F⟩:=aB (w1.setCell (jB C 3) (jV ((k:Int)+1)));have H:W2.heap[C]?=some (jC #[c,mv,jL q ns.length Y,jV ((k:Int)+1)] 96):=by rw[F];exact aH _ _ _ _ _ _ l.blk
   have L:W2.heap[w.heap.size]?=some (jC #[jT nm,jV ty] 144):=by
    rw[F,aG _ _ _ _ (by show w.heap.size≠C;have:=v.out;omega)];exact z
   have N:W2.ownsRow (C+1) 144 2 (jL q ns.length Y) ns.length (lA ns):=by rw[F];exact dt l.row (by show C<C+1;omega) _
   have M:Below C w W2:=by rw[F];exact(K.mono (aL v)).setCell (p:=(jB C 3)) (aD _) _
   have D:C<W2.heap.size:=(aC.1 H).1;have E:Kt w W2:=by rw[F];exact(fp K).trans (Ag l.blk)
   have P:=jI E;rw[<-F];have f:=jc 2 H;have B:(W2.alloc (jC #[jT nm,jV ty] 144)).cell? (jB C 2)=some (jL q ns.length Y):=jc 2 (ez H _);have J:=jc 0 L;have W:=jc 1 L;have Z:Hid (((W2.alloc (jC #[jT nm,jV ty] 144)).drew).ownsRow (C+1) 144 2 (jL q ns.length Y) ns.length (lA ns)):=(N.alloc _).drew;have v:=jI (World.news_of_block (cs:=#[jT nm,jV ty]) (t:=144) (fr:=(0,0)) (heap_alloc_last W2 _));have J:Hid (∀u∈([jT nm,jV ty]:jE),u.oneCell'=true):=λu W=>by simp at W;rcases W with rfl|rfl<;>rfl
   have W:Hid (C+1<=((W2.alloc (jC #[jT nm,jV ty] 144)).drew).heap.size):=by show _<=_;simp;omega
   obtain⟨A0,A2,A3,A4⟩:=j4 (λi (A1:(Value.slice q ns.length Y).ownBlock=some i)=>N.lt i A1) H M D;have A5:ns.length<=12:=by have:=l.le;omega
   have A6:=jI l.le;have A7:Hid (lA (ns++[(nm.data.toList,ty)])=lA ns++[jT nm,jV ty]):=by
    show _=_;have e:str nm.data.toList=jT nm:=by
     show Value.string ⟨nm.data.toList.toArray⟩=jT nm;simp
    simp[lA,e]
   obtain⟨n,A8⟩:=aB ns.length;have A9:=jI A8;rw[<-A8]at f B Z A0 A2 A5 A6;clear E F H L N M D d O A g j l z K A8 o r s m
   go_region_law (refine step_append_lies _ rfl (.tmp 31) (.tmp 33) 65 rfl (C+1) 144 Q _ 2 24 Tryz.underlying65 S T U V rfl (by decide) (jL q n Y) n (lA ns) (by simp[Act.eval]) Z (jA W2.heap.size) 1 1 [jT nm,jV ty] (by simp[Act.eval]) rfl v J (by decide) (by unfold maxLen;omega) (by omega) W (W2.heap.size+1) (by simp) ?_;intro m o r s K M O;have Q:r.heap[C]?=some (jC #[c,mv,jL q n Y,jV ((k:Int)+1)] 96):=(by rw[K.block C (by simp;have:=A4.out;omega) (λe=>by have:=(A0.out C e.symm).1;omega)];exact ez A2 _);have S:Hid (r.heap[C]?=some (jC #[c,mv,jL q n Y,jV ((k:Int)+1)] 96)):=Q;have T:Hid (r.ownsRow (C+1) 144 2 (jL (some (jA m)) (n+1) o) (n+1) (lA ns++[jT nm,jV ty])):=s;have U:Hid (Below C w r):=((A3.alloc (by have:=A4.out;omega) _).drew.grown K (by simp;have:=A4.out;omega) (λi e=>by have:=(A0 i e).1;omega));have V:Hid (Kt w r):=(P.trans (fp (by exact((aJ _ _).alloc (aD _) _).drew))).trans (Hh K Z);have d:=ea Q 2;have A:=jc 2 Q;clear s K M O Q)
   all_goals
    go_wp2;go_end0;refine y _ _ ⟨.inl ⟨ns++[(nm.data.toList,ty)],k+1,jL (some (jA m)) (n+1) o,I,rfl,?_,?_,?_,?_⟩,?_,?_⟩
    ·rw[show((k+1:Nat):Int)=(k:Int)+1 by omega];exact aH _ _ _ _ _ _ S
    ·have e:(ns++[(nm.data.toList,ty)]).length=n+1:=by rw[A9.out];simp
     rw[e,A7.out];exact dt T (by show C<C+1;omega) _
    ·have:=A6.out;have:=A9.out;simp;omega
    ·omega
    ·exact U.setCell (p:=(jB C 2)) (aD _) _
    ·exact V.trans (Ag S)
def IP(nm:By):List eR->Option Nat
 |[]=>none
 |F::L=>if F.nm=nm then some 0 else(IP nm L).map (·+1)
structure yY (w:jW) (C:Nat) (fv mv:jU) (fs:List eR):Prop where
 low:C<=w.heap.size
 par:∀w',Below C w w'->∀i F,fs[i]?=some F->∃g c vp,fv=jL (some (jA g)) fs.length c/\w'.cell? (jB g (i*4+2))=some vp/\w'.ownsRow 0 144 2 vp F.ps.length (lA F.ps)/\F.ps.length<=1000000
 look:∀w',Below C w w'->∀nm:ByteArray,nm.size<=1000000->(Instr.lookup 92 mv (jT nm) true).run Tryz.prog w'= .ok (.tuple #[jV (((IP nm.data.toList fs).getD 0:Nat):Int),.bool (IP nm.data.toList fs).isSome]) w'
 few:fs.length<=12
theorem yY.below{a:jU}{fs:List eR}(h:yY w C a mv fs)(b:Below C w w'):yY w' C a mv fs:=
 ⟨aP h.low b.size,λu c=>h.par u (b.trans c),λu c=>h.look u (b.trans c),h.few⟩
theorem eu(h:Below C w w'):eJ (Lo C) w w':=λb cs t a _ hk=>by rw[h.block b a];exact hk
def nH(r:X Int)(w:jW)(e:Ending)(w':jW):Prop:=((∃k,r= .ok k/\e=jR (jV k))\/(∃k a,r= .error (k,a)/\o7 k a e w'))/\az w w'
def Ij(r:X Unit)(w:jW)(e:Ending)(w':jW):Prop:=((r= .ok ()/\e=jR (.tuple #[]))\/(∃k a,r= .error (k,a)/\o7 k a e w'))/\az w w'
def DJ(t:Tr):Prop:=∀(w:jW)(C:Nat)(a mv b:jU)(fs:List eR)(ns:Nm)(k:Nat)(v:jU),qR w C a mv b ns k->yY w C a mv fs->ej (Lo C) w t v->aA 156 #[jP C,v] w (nH (ck (eU fs) ns t []) w)
def yZ(t:Tr):Prop:=∀(w:jW)(C:Nat)(a mv b:jU)(fs:List eR)(ns:Nm)(k:Nat)(v:jU)(c:Int),qR w C a mv b ns k->yY w C a mv fs->ej (Lo C) w t v->aA 157 #[jP C,v,jV c] w (Ij (mu (eU fs) ns t c) w)
theorem oo{C:Nat}{o:Obj}(h:w.heap[b]?=some o)(a:az w w'):w'.heap[b]?=some o:=by
 rw[a.block b (aC.1 h).1];exact h
theorem Ct(d:fw t)(h:DJ t):yZ t:=by
 intro w C f mv j fs ns k v m o p q;obtain⟨c,a,n,nm,s,l,r,g,rfl⟩:=d;have u:=jI (h w C f mv j fs ns k v o p q);obtain⟨b,vl,vr,x,y,z,rfl,A,_⟩:=jM q;have B:=jI A;have D:Hid (lY (nd c a n nm s l r g)=a):=rfl;have E:Hid (∀e w',Ij (mu (eU fs) ns (nd c a n nm s l r g) m) w e w'->Ij (mu (eU fs) ns (nd c a n nm s l r g) m) w e w'):=λ_ _ h=>h;generalize F:Ij (mu (eU fs) ns (nd c a n nm s l r g) m) w=G at*;clear E;have E:Hid (∀e w',Ij (mu (eU fs) ns (nd c a n nm s l r g) m) w e w'->G e w'):=λe w' h=>by rw[<-F];exact h
 generalize nd c a n nm s l r g=t at*;clear h o p q A F;go_enter Tryz.func157,Tryz.ntmps157
 go_wp2_with(go_at_call 156;fail)
 refine u.mono ?_;rintro e w1 ⟨⟨H,I,rfl⟩|⟨H,J,I,K,rfl,L⟩,M⟩
 ·have N:=jI M;have O:=oo (C:=C) B M;have P:=jc 1 O;have Q:=jI I;by_cases hk:H=m
  ·subst hk;clear M O I P;go_wp2;go_end0;refine E _ _ ⟨.inl ⟨?_,rfl⟩,N⟩
   unfold mu vT;rw[Q.out];show(if H=H then _ else _)=_;rw[if_pos rfl]
  ·have S:((H:Int)==m)=false:=by simpa using hk
   clear M O I
   go_wp2_with(go_at_call 64;fail)
   refine(jp 1 a w1).mono ?_;rintro e T ⟨⟨U,rfl,V⟩,W⟩;refine⟨rfl,E _ _ ⟨.inr ⟨1,a,?_,U,rfl,V⟩,N.trans (W.mono N.size)⟩⟩;unfold mu vT;rw[Q.out,D.out];show(if H=m then _ else _)=_;rw[if_neg hk]
 ·refine⟨rfl,E _ _ ⟨.inr ⟨H,J,?_,K,rfl,L⟩,M⟩⟩;unfold mu;rw[I];rfl
theorem ii{α b c:Type}(x:X α)(f:α->X b)(g:b->X c):bx (bx x f) g=bx x λa=>bx (f a) g:=by cases x<;>rfl
theorem Uf(lk:By->Option Nm)(ns:Nm)(a n:Int)(nm b:By)(l r g:Tr):ck lk ns (nd 1 a n nm b l r g) []= .ok 1:=by
 rw[ck];simp[mu,ii]
theorem Ug(lk:By->Option Nm)(ns:Nm)(a n:Int)(nm b:By)(l r g:Tr):ck lk ns (nd 9 a n nm b l r g) []= .ok 1:=by
 rw[ck];simp[mu,ii]
theorem oT(lk:By->Option Nm)(ns:Nm)(a n:Int)(nm b:By)(l r g:Tr):ck lk ns (nd 3 a n nm b l r g) []=bx (mu lk ns l 1) λ_=>bx (mu lk ns r 1) λ_=> .ok 1:=by
 rw[ck];simp[mu,ii]
theorem uj(lk:By->Option Nm)(ns:Nm)(a n:Int)(nm b:By)(l r g:Tr):ck lk ns (nd 4 a n nm b l r g) []=bx (mu lk ns l 1) λ_=> .ok 1:=by
 rw[ck];simp[mu,ii]
theorem CA(lk:By->Option Nm)(ns:Nm)(a n:Int)(nm b:By)(l r g:Tr):ck lk ns (nd 6 a n nm b l r g) []=bx (mu lk ns l 1) λ_=> .ok 2:=by
 rw[ck];simp[mu,ii]
theorem CB(lk:By->Option Nm)(ns:Nm)(a n:Int)(nm b:By)(l r g:Tr):ck lk ns (nd 7 a n nm b l r g) []=bx (mu lk ns l 2) λ_=> .ok 1:=by
 rw[ck];simp[mu,ii]
theorem zk(lk:By->Option Nm)(ns:Nm)(a n:Int)(nm b:By)(l r g:Tr):ck lk ns (nd 8 a n nm b l r g) []=bx (mu lk ns l 2) λ_=>bx (mu lk ns r 1) λ_=> .ok 1:=by
 rw[ck];simp[mu,ii]
theorem vw(lk:By->Option Nm)(ns:Nm)(a n:Int)(nm b:By)(l r g:Tr):ck lk ns (nd 2 a n nm b l r g) []=(match gP ns nm with|some k=> .ok k|none=> .error (7,a)):=by
 rw[ck];simp;cases gP ns nm<;>rfl
theorem PU:DJ (nd 1 a n nm c l r g):=by
 intro w C d mv f fs ns k v j m o;obtain⟨b,vl,vr,p,q,s,rfl,t,u,x,y,z,A⟩:=jM o;have B:=jc 0 t;obtain⟨D,E,F,H,I⟩:=j5 t j m u x;have J:Hid (∀e w',nH (ck (eU fs) ns (nd 1 a n nm c l r g) []) w e w'->nH (ck (eU fs) ns (nd 1 a n nm c l r g) []) w e w'):=λ_ _ h=>h;generalize K:nH (ck (eU fs) ns (nd 1 a n nm c l r g) []) w=G at*;clear J;have J:Hid (∀e w',nH (ck (eU fs) ns (nd 1 a n nm c l r g) []) w e w'->G e w'):=λe w' h=>by rw[<-K];exact h
 clear j m o t u x y z A K;go_enter Tryz.func156,Tryz.ntmps156;go_wp2;exact J _ _ ⟨.inl ⟨1,Uf _ _ _ _ _ _ _ _ _,rfl⟩,aJ _ _⟩
theorem Hp:DJ (nd 9 a n nm c l r g):=by
 intro w C d mv f fs ns k v j m o;obtain⟨b,vl,vr,p,q,s,rfl,t,u,x,y,z,A⟩:=jM o;have B:=jc 0 t;obtain⟨D,E,F,H,I⟩:=j5 t j m u x;have J:Hid (∀e w',nH (ck (eU fs) ns (nd 9 a n nm c l r g) []) w e w'->nH (ck (eU fs) ns (nd 9 a n nm c l r g) []) w e w'):=λ_ _ h=>h;generalize K:nH (ck (eU fs) ns (nd 9 a n nm c l r g) []) w=G at*;clear J;have J:Hid (∀e w',nH (ck (eU fs) ns (nd 9 a n nm c l r g) []) w e w'->G e w'):=λe w' h=>by rw[<-K];exact h
 clear j m o t u x y z A K;go_enter Tryz.func156,Tryz.ntmps156;go_wp2;exact J _ _ ⟨.inl ⟨1,Ug _ _ _ _ _ _ _ _ _,rfl⟩,aJ _ _⟩
theorem Lk:DJ (nd 2 a n nm c l r g):=by
 intro w C d mv f fs ns k v j m o;obtain⟨b,vl,vr,p,q,s,rfl,u,x,z,A,B,D⟩:=jM o;have E:=jc 0 u;obtain⟨F,H,I,J,K⟩:=j5 u j m x z;obtain⟨y,L,M⟩:=fU nm;have N:=jI M;have O:w.cell? (jB b 3)=some (jT y):=by rw[<-L];exact jc 3 u
 have P:=jc 1 u;have Q:=jI (j.below (aJ _ _).drew);have S:=jI (λw' (h:Below w.drew.heap.size w.drew w')=>(aJ _ _).drew.trans h);have T:Hid (∀e w',nH (ck (eU fs) ns (nd 2 a n nm c l r g) []) w e w'->nH (ck (eU fs) ns (nd 2 a n nm c l r g) []) w e w'):=λ_ _ h=>h;generalize U:nH (ck (eU fs) ns (nd 2 a n nm c l r g) []) w=G at*;clear T;have T:Hid (∀e w',nH (ck (eU fs) ns (nd 2 a n nm c l r g) []) w e w'->G e w'):=λe w' h=>by rw[<-U];exact h
 clear L M;clear j m o u x z A B D U;go_enter Tryz.func156,Tryz.ntmps156
 go_wp2_with fail
 go_region_with(go_at_call 158;refine(mI Q y a).mono ?_;rintro e w1 ⟨⟨t,V,rfl⟩|⟨V,W,rfl,Y⟩,Z⟩;rotate_left;exact(by refine⟨rfl,T _ _ ⟨.inr ⟨7,a,?_,W,rfl,Y⟩,S _ Z⟩⟩;rw[vw,<-N.out,V]);have d:Hid (az w w1):=S _ Z;have f:Hid (gP ns y.data.toList=some t):=V;clear Z V)
 all_goals
  go_wp2;go_ret;refine T _ _ ⟨.inl ⟨t,?_,rfl⟩,d⟩
  rw[vw,<-N.out,f.out]
theorem Sn(d:yZ l):DJ (nd 4 a n nm c l r g):=by
 intro w C f mv j fs ns k v m o p;obtain⟨b,vl,vr,q,s,t,rfl,u,x,y,z,A,B⟩:=jM p;have D:=jc 0 u;obtain⟨E,F,H,I,J⟩:=j5 u m o x y;have K:=jc 5 u;have L:Hid (∀e w',nH (ck (eU fs) ns (nd 4 a n nm c l r g) []) w e w'->nH (ck (eU fs) ns (nd 4 a n nm c l r g) []) w e w'):=λ_ _ h=>h;generalize M:nH (ck (eU fs) ns (nd 4 a n nm c l r g) []) w=G at*;clear L;have L:Hid (∀e w',nH (ck (eU fs) ns (nd 4 a n nm c l r g) []) w e w'->G e w'):=λe w' h=>by rw[<-M];exact h
 clear m o p u x y z A B M;go_enter Tryz.func156,Tryz.ntmps156
 go_wp2_with(go_at_call 157;fail)
 refine(d w C f mv j fs ns k vl 1 F H I).mono ?_;rintro e w1 ⟨⟨N,rfl⟩|⟨O,P,N,Q,rfl,S⟩,T⟩
 ·have U:=jI T;have V:=jI N;clear T N;go_wp2;refine L _ _ ⟨.inl ⟨1,?_,rfl⟩,U⟩
  rw[uj,V.out];rfl
 ·refine⟨rfl,L _ _ ⟨.inr ⟨O,P,?_,Q,rfl,S⟩,T⟩⟩;rw[uj,N];rfl
theorem PV(d:yZ l):DJ (nd 6 a n nm c l r g):=by
 intro w C f mv j fs ns k v m o p;obtain⟨b,vl,vr,q,s,t,rfl,u,x,y,z,A,B⟩:=jM p;have D:=jc 0 u;obtain⟨E,F,H,I,J⟩:=j5 u m o x y;have K:=jc 5 u;have L:Hid (∀e w',nH (ck (eU fs) ns (nd 6 a n nm c l r g) []) w e w'->nH (ck (eU fs) ns (nd 6 a n nm c l r g) []) w e w'):=λ_ _ h=>h;generalize M:nH (ck (eU fs) ns (nd 6 a n nm c l r g) []) w=G at*;clear L;have L:Hid (∀e w',nH (ck (eU fs) ns (nd 6 a n nm c l r g) []) w e w'->G e w'):=λe w' h=>by rw[<-M];exact h
 clear m o p u x y z A B M;go_enter Tryz.func156,Tryz.ntmps156
 go_wp2_with(go_at_call 157;fail)
 refine(d w C f mv j fs ns k vl 1 F H I).mono ?_;rintro e w1 ⟨⟨N,rfl⟩|⟨O,P,N,Q,rfl,S⟩,T⟩
 ·have U:=jI T;have V:=jI N;clear T N;go_wp2;refine L _ _ ⟨.inl ⟨2,?_,rfl⟩,U⟩
  rw[CA,V.out];rfl
 ·refine⟨rfl,L _ _ ⟨.inr ⟨O,P,?_,Q,rfl,S⟩,T⟩⟩;rw[CA,N];rfl
theorem PW(d:yZ l):DJ (nd 7 a n nm c l r g):=by
 intro w C f mv j fs ns k v m o p;obtain⟨b,vl,vr,q,s,t,rfl,u,x,y,z,A,B⟩:=jM p;have D:=jc 0 u;obtain⟨E,F,H,I,J⟩:=j5 u m o x y;have K:=jc 5 u;have L:Hid (∀e w',nH (ck (eU fs) ns (nd 7 a n nm c l r g) []) w e w'->nH (ck (eU fs) ns (nd 7 a n nm c l r g) []) w e w'):=λ_ _ h=>h;generalize M:nH (ck (eU fs) ns (nd 7 a n nm c l r g) []) w=G at*;clear L;have L:Hid (∀e w',nH (ck (eU fs) ns (nd 7 a n nm c l r g) []) w e w'->G e w'):=λe w' h=>by rw[<-M];exact h
 clear m o p u x y z A B M;go_enter Tryz.func156,Tryz.ntmps156
 go_wp2_with(go_at_call 157;fail)
 refine(d w C f mv j fs ns k vl 2 F H I).mono ?_;rintro e w1 ⟨⟨N,rfl⟩|⟨O,P,N,Q,rfl,S⟩,T⟩
 ·have U:=jI T;have V:=jI N;clear T N;go_wp2;refine L _ _ ⟨.inl ⟨1,?_,rfl⟩,U⟩
  rw[CB,V.out];rfl
 ·refine⟨rfl,L _ _ ⟨.inr ⟨O,P,?_,Q,rfl,S⟩,T⟩⟩;rw[CB,N];rfl
theorem PX(d:yZ l)(f:yZ r):DJ (nd 3 a n nm c l r g):=by
 intro w C j mv m fs ns k v o p q;obtain⟨b,vl,vr,s,t,u,rfl,x,y,z,A,B,D⟩:=jM q;have E:=jc 0 x;obtain⟨F,H,I,J,K⟩:=j5 x o p y z;have L:=jc 5 x;have M:Hid (∀e w',nH (ck (eU fs) ns (nd 3 a n nm c l r g) []) w e w'->nH (ck (eU fs) ns (nd 3 a n nm c l r g) []) w e w'):=λ_ _ h=>h;generalize N:nH (ck (eU fs) ns (nd 3 a n nm c l r g) []) w=G at*;clear M;have M:Hid (∀e w',nH (ck (eU fs) ns (nd 3 a n nm c l r g) []) w e w'->G e w'):=λe w' h=>by rw[<-N];exact h
 clear o p q x y z A B D N;go_enter Tryz.func156,Tryz.ntmps156
 go_wp2_with(go_at_call 157;fail)
 refine(d w C j mv m fs ns k vl 1 H I J).mono ?_;rintro e w1 ⟨⟨O,rfl⟩|⟨P,Q,O,S,rfl,T⟩,U⟩
 ·have V:=jI U;have W:=jI O;have Y:=U.mono (aL H.lt);obtain⟨Z,s,t⟩:=j3 (H.below U) (I.below Y) ((eu Y).ex K);have u:=jc 6 (oo (C:=C) F U);clear U O Y
  go_wp2_with(go_at_call 157;fail)
  refine(f w1 C j mv m fs ns k vr 1 Z s t).mono ?_;rintro e E ⟨⟨O,rfl⟩|⟨P,Q,O,S,rfl,T⟩,U⟩
  ·have L:=jI (V.trans (U.mono V.size));have c:=jI O;clear U O;go_wp2;refine M _ _ ⟨.inl ⟨1,?_,rfl⟩,L⟩
   rw[oT,W.out];show bx (mu (eU fs) ns r 1) _=_;rw[c.out];rfl
  ·refine⟨rfl,M _ _ ⟨.inr ⟨P,Q,?_,S,rfl,T⟩,V.trans (U.mono V.size)⟩⟩;rw[oT,W.out];show bx (mu (eU fs) ns r 1) _=_;rw[O];rfl
 ·refine⟨rfl,M _ _ ⟨.inr ⟨P,Q,?_,S,rfl,T⟩,U⟩⟩;rw[oT,O];rfl
theorem Ll(d:yZ l)(f:yZ r):DJ (nd 8 a n nm c l r g):=by
 intro w C j mv m fs ns k v o p q;obtain⟨b,vl,vr,s,t,u,rfl,x,y,z,A,B,D⟩:=jM q;have E:=jc 0 x;obtain⟨F,H,I,J,K⟩:=j5 x o p y z;have L:=jc 5 x;have M:Hid (∀e w',nH (ck (eU fs) ns (nd 8 a n nm c l r g) []) w e w'->nH (ck (eU fs) ns (nd 8 a n nm c l r g) []) w e w'):=λ_ _ h=>h;generalize N:nH (ck (eU fs) ns (nd 8 a n nm c l r g) []) w=G at*;clear M;have M:Hid (∀e w',nH (ck (eU fs) ns (nd 8 a n nm c l r g) []) w e w'->G e w'):=λe w' h=>by rw[<-N];exact h
 clear o p q x y z A B D N;go_enter Tryz.func156,Tryz.ntmps156
 go_wp2_with(go_at_call 157;fail)
 refine(d w C j mv m fs ns k vl 2 H I J).mono ?_;rintro e w1 ⟨⟨O,rfl⟩|⟨P,Q,O,S,rfl,T⟩,U⟩
 ·have V:=jI U;have W:=jI O;have Y:=U.mono (aL H.lt);obtain⟨Z,s,t⟩:=j3 (H.below U) (I.below Y) ((eu Y).ex K);have u:=jc 6 (oo (C:=C) F U);clear U O Y
  go_wp2_with(go_at_call 157;fail)
  refine(f w1 C j mv m fs ns k vr 1 Z s t).mono ?_;rintro e E ⟨⟨O,rfl⟩|⟨P,Q,O,S,rfl,T⟩,U⟩
  ·have L:=jI (V.trans (U.mono V.size));have c:=jI O;clear U O;go_wp2;refine M _ _ ⟨.inl ⟨1,?_,rfl⟩,L⟩
   rw[zk,W.out];show bx (mu (eU fs) ns r 1) _=_;rw[c.out];rfl
  ·refine⟨rfl,M _ _ ⟨.inr ⟨P,Q,?_,S,rfl,T⟩,V.trans (U.mono V.size)⟩⟩;rw[zk,W.out];show bx (mu (eU fs) ns r 1) _=_;rw[O];rfl
 ·refine⟨rfl,M _ _ ⟨.inr ⟨P,Q,?_,S,rfl,T⟩,U⟩⟩;rw[zk,O];rfl
theorem MH(A:ByteArray):A.data.toList.length=A.size:=by simp
theorem zV(nm:By):∀(fs:List eR),(∃(i:Nat)(F:eR),IP nm fs=some i/\fs[i]?=some F/\i<fs.length/\eU fs nm=some F.ps)\/(IP nm fs=none/\eU fs nm=none)
 |[]=> .inr ⟨rfl,rfl⟩
 |G::fs=>by
  unfold eU;rw[IP,bX];by_cases h:G.nm=nm
  ·have:(G.nm==nm)=true:=by simpa using h
   rw[if_pos h,this];exact .inl ⟨0,G,rfl,rfl,by simp,rfl⟩
  ·have:(G.nm==nm)=false:=by simpa using h
   rw[if_neg h,this];rcases zV nm fs with⟨i,x,h1,h2,a,b⟩|⟨h1,h2⟩
   ·exact .inl ⟨i+1,x,by rw[h1];rfl,by simpa using h2,by simpa using a,b⟩
   ·exact .inr ⟨by rw[h1];rfl,h2⟩
theorem Cz(lk:By->Option Nm)(ns:Nm)(a n:Int)(nm b:By)(l r g:Tr):ck lk ns (nd 5 a n nm b l r g) []=(match lk nm with|none=> .error (7,a)|some ps=>if qw g≠ps.length then .error (2,a) else bx (ck lk ns g ps) λ_=> .ok 1):=by
 rw[ck];simp;cases lk nm<;>simp
theorem RP(lk:By->Option Nm)(ns:Nm)(x:Tr)(xs:List Tr)(p:By×Int)(ps:Nm):ck lk ns (chain (x::xs)) (p::ps)=bx (mu lk ns x p.2) λ_=>ck lk ns (chain xs) ps:=by
 show ck lk ns (.slice [x] [chain xs]) (p::ps)=_;rw[ck];simp[mu,ii]
theorem Pj(lk:By->Option Nm)(ns:Nm):ck lk ns (chain []) []= .ok 0:=by
 show ck lk ns (.slice [] []) []=_;rw[ck]
 all_goals simp
def cv(lk:By->Option Nm)(ns:Nm)(t:Tr):X Unit:=bx (ck lk ns t []) λ_=> .ok ()
theorem GA{op:By}(IH:∀x∈xs,yZ x/\fw x)(hnm:nm.length<=12)(hxs:xs.length<=1000000)(w:jW)(C:Nat)(fv mv nv:jU)(fs:List eR)(ns:Nm)(k:Nat)(v:jU)(hs:qR w C fv mv nv ns k)(hf:yY w C fv mv fs)(hx:ej (Lo C) w (nd 5 a n nm op l r (chain xs)) v):
  aA 210 #[jP C,v] w (Ij (cv (eU fs) ns (nd 5 a n nm op l r (chain xs))) w):=by
 obtain⟨b,vl,vr,vg,ys,hb,rfl,hblk,hxl,hxr,hrow,hro,hxg⟩:=jM hx;obtain⟨xs',hch,hlen,hat⟩:=mS ys _ hxg;have:=lf hch;subst this;obtain⟨qg,cg,rfl⟩:=eh hrow;obtain⟨y,hy,hyt⟩:=fU nm;have hysz:y.size<=1000000:=by rw[<-MH,hyt];omega
 have c3:w.cell? (jB b 3)=some (jT y):=by rw[<-hy];exact jc 3 hblk
 have c1:=jc 1 hblk;have c7:=jc 7 hblk;have d0:=jc 0 hs.blk;have d1:=jc 1 hs.blk;have hlk:=hf.look w.drew (aJ _ _).drew y hysz;rw[hyt]at hlk;have HS:Hid (qR w C fv mv nv ns k):=hs;have HF:Hid (yY w C fv mv fs):=hf;have HIH:Hid (∀x∈xs,yZ x/\fw x):=IH;have HAt:Hid (∀(i:Nat)(x:Tr)(y:jU),xs[i]?=some x->ys[i]?=some y->ej (Lo C) w x y):=hat;have HRow:Hid (w.ownsRow 0 145 1 (jL qg ys.length cg) ys.length ys):=hrow;have HLo:Hid (∀i,(Value.slice qg ys.length cg).ownBlock=some i->Lo C i):=hro;have HLn:Hid (xs.length=ys.length):=hlen;have HCK:Hid (cv (eU fs) ns (nd 5 a n nm op l r (chain xs))=(match eU fs nm with|none=> .error (7,a)|some ps=>if xs.length≠ps.length then .error (2,a) else bx (ck (eU fs) ns (chain xs) ps) λ_=> .ok ())):=by
  show _=_;unfold cv;rw[Cz,ig];cases eU fs nm with
  |none=>rfl
  |some ps=>
   show bx (if xs.length≠ps.length then _ else _) _=if xs.length≠ps.length then _ else _
   split
   ·rfl
   ·rw[ii];rfl
 have HG0:Hid (∀e w',Ij (cv (eU fs) ns (nd 5 a n nm op l r (chain xs))) w e w'->Ij (cv (eU fs) ns (nd 5 a n nm op l r (chain xs))) w e w'):=λ_ _ h=>h;generalize hG:Ij (cv (eU fs) ns (nd 5 a n nm op l r (chain xs))) w=G at*;clear HG0;have HG0:Hid (∀e w',Ij (cv (eU fs) ns (nd 5 a n nm op l r (chain xs))) w e w'->G e w'):=λe w' h=>by rw[<-hG];exact h
 generalize cv (eU fs) ns (nd 5 a n nm op l r (chain xs))=R0 at*;clear IH hs hf hx hblk hxl hxr hrow hro hxg hG hch hat hy hyt hysz hlen;rcases zV nm fs with⟨i,F,e1,e2,e3,e4⟩|⟨e1,e2⟩
 ·rw[e1]at hlk;have hlk':(Instr.lookup 92 mv (jT y) true).run Tryz.prog w.drew= .ok (.tuple #[jV (i:Int),.bool true]) w.drew:=hlk;clear hlk;obtain⟨fg,fc,vp,hfv,q2,hpr,hpl⟩:=HF.out.par w (aJ _ _) i F e2;obtain⟨qp,cp,rfl⟩:=eh hpr;have HPr:Hid (w.ownsRow 0 144 2 (jL qp F.ps.length cp) F.ps.length (lA F.ps)):=hpr;have hfew:=HF.out.few;have HR1:Hid (R0=if xs.length≠F.ps.length then .error (2,a) else bx (ck (eU fs) ns (chain xs) F.ps) λ_=> .ok ()):=by
   show _=_;rw[HCK.out,e4]
  rw[hfv]at d0;obtain⟨nf,hnf⟩:=aB fs.length;rw[<-hnf]at d0 e3 hfew;obtain⟨np,hnp⟩:=aB F.ps.length;have HNp:Hid (np=F.ps.length):=hnp;rw[<-hnp]at HPr HR1 q2 hpl;obtain⟨m,hm⟩:=aB ys.length;have HM:Hid (m=ys.length):=hm;rw[<-hm]at HRow HLo HLn c7;rw[HLn.out]at HR1 hxs;clear e1 e2 e4 hfv hpr hnf hnp hm HCK;by_cases hmp:m=np
  ·subst hmp;have HR2:Hid (R0=bx (ck (eU fs) ns (chain xs) F.ps) λ_=> .ok ()):=by
    show _=_;rw[HR1.out,if_neg (by simp)]
   clear HR1;go_enter Tryz.func210,Tryz.ntmps210
   go_wp2_with fail
   go_region
   all_goals
    go_wp2_with fail
    go_loopw [54] (λv wr=>∃j:Nat,j<=m/\v=jV j/\Hid (ck (eU fs) ns (chain xs) F.ps=ck (eU fs) ns (chain (xs.drop j)) (F.ps.drop j))/\Hid (az w wr)) (λv _=>m-(intOf v).toNat)
    case atStart=>exact⟨0,aQ _,rfl,by show _=_;simp,(aJ _ _).drew⟩
    case round=>
     obtain⟨j,hj,rfl,HI,HB⟩:=hrel;by_cases hlt:j<m
     ·obtain⟨x,hxj⟩:∃x,xs[j]?=some x:=⟨xs[j]'(by have:=HLn.out;omega),aI (by have:=HLn.out;omega)⟩;obtain⟨p,hpj⟩:∃p,F.ps[j]?=some p:=⟨F.ps[j]'(by have:=HNp.out;omega),aI (by have:=HNp.out;omega)⟩;obtain⟨yv,hyj⟩:∃yv,ys[j]?=some yv:=⟨ys[j]'(by have:=HM.out;omega),aI (by have:=HM.out;omega)⟩;have hex:=HAt.out j x yv hxj hyj;obtain⟨hmu,hnd⟩:=HIH.out x (aM hxj);obtain⟨yb,rfl⟩:=fw.ptr hnd hex;obtain⟨gq,capq,eq1,-,-⟩:=HRow.out.form (by omega);injection eq1 with eq1 eq2 eq3;subst eq1;clear eq2 eq3;obtain⟨ar,capp,ep1,-,-⟩:=HPr.out.form (by omega);injection ep1 with ep1 ep2 ep3;subst ep1;clear ep2 ep3;have q0:wr.cell? (jB gq j)=some (jP yb):=by
       have:=(HRow.out.kept (iN HB.out) (.inr (by simp[Value.ownBlock]))).cells (g:=gq) rfl j _ hyj;rw[gv]at this;exact this
      have q1:wr.cell? (jB ar (j*2+1))=some (jV p.2):=by
       have:=(HPr.out.kept (iN HB.out) (.inr (by simp[Value.ownBlock]))).cells (g:=ar) rfl (j*2+1) _ (kV F.ps j p hpj).2;rw[gv]at this;exact this
      have hloC:=HB.out.mono (aL HS.out.lt);have HMu:Hid (aA 157 #[jP C,jP yb,jV p.2] wr (Ij (mu (eU fs) ns x p.2) wr)):=hmu wr C fv mv nv fs ns k _ p.2 (HS.out.below HB.out) (HF.out.below hloC) ((eu hloC).ex hex);have HSt:Hid (ck (eU fs) ns (chain (xs.drop j)) (F.ps.drop j)=bx (mu (eU fs) ns x p.2) λ_=>ck (eU fs) ns (chain (xs.drop (j+1))) (F.ps.drop (j+1))):=by
       show _=_;have e1:xs.drop j=x::xs.drop (j+1):=by
        rw[bn (by have:=HLn.out;omega)];congr 1;have:=aI (l:=xs) (i:=j) (by have:=HLn.out;omega);rw[hxj]at this;exact(aS this).symm
       have e2:F.ps.drop j=p::F.ps.drop (j+1):=by
        rw[bn (by have:=HNp.out;omega)];congr 1;have:=aI (l:=F.ps) (i:=j) (by have:=HNp.out;omega);rw[hpj]at this;exact(aS this).symm
       rw[e1,e2,RP]
      obtain⟨pt,hpt⟩:=aB p.2;rw[<-hpt]at q1 HMu HSt;clear hxj hpj hyj hex hmu hnd hloC hpt
      go_wp2_with(go_at_call 157;fail)
      refine HMu.out.mono ?_;rintro e w2 ⟨⟨hr,rfl⟩|⟨k1,a1,hr,b1,rfl,hb1⟩,hw⟩
      ·have HB2:Hid (az w w2):=HB.out.trans (hw.mono HB.out.size);have HI2:Hid (ck (eU fs) ns (chain xs) F.ps=ck (eU fs) ns (chain (xs.drop (j+1))) (F.ps.drop (j+1))):=by
        show _=_;rw[HI.out,HSt.out,hr];rfl
       clear hw hr;go_wp2;exact⟨⟨j+1,by omega,by go_num,HI2,HB2⟩,by simp[intOf];omega⟩
      ·refine⟨rfl,HG0.out _ _ ⟨.inr ⟨k1,a1,?_,b1,rfl,hb1⟩,HB.out.trans (hw.mono HB.out.size)⟩⟩;rw[HR2.out,HI.out,HSt.out,hr];rfl
     ·obtain rfl:j=m:=by omega
      have HE:Hid (R0= .ok ()):=by
       show _=_;rw[HR2.out,HI.out,bg (by have:=HLn.out;omega),bg (by have:=HNp.out;omega),Pj];rfl
      clear hlt HI;go_wp2;go_end0;exact HG0.out _ _ ⟨.inl ⟨HE.out,rfl⟩,HB.out⟩
  ·have hmp':((m:Int)==(np:Int))=false:=by simp;omega
   have HR2:Hid (R0= .error (2,a)):=by
    show _=_;rw[HR1.out,if_pos (by simpa using hmp)]
   clear HR1 hmp;go_enter Tryz.func210,Tryz.ntmps210
   go_wp2_with fail
   go_region
   all_goals
    go_wp2_with(go_at_call 64;fail)
    refine(jp 2 a _).mono ?_;rintro e w2 ⟨⟨b2,rfl,hb2⟩,hw2⟩;exact⟨rfl,HG0.out _ _ ⟨.inr ⟨2,a,HR2.out,b2,rfl,hb2⟩,(aJ _ _).drew.trans hw2⟩⟩
 ·rw[e1]at hlk;have hlk':(Instr.lookup 92 mv (jT y) true).run Tryz.prog w.drew= .ok (.tuple #[jV 0,.bool false]) w.drew:=hlk;have HR1:Hid (R0= .error (7,a)):=by
   show _=_;rw[HCK.out,e2]
  clear hlk e1 e2;go_enter Tryz.func210,Tryz.ntmps210
  go_wp2_with fail
  go_region
  all_goals
   go_wp2_with(go_at_call 64;fail)
   refine(jp 7 a _).mono ?_;rintro e w2 ⟨⟨b2,rfl,hb2⟩,hw2⟩;exact⟨rfl,HG0.out _ _ ⟨.inr ⟨7,a,HR1.out,b2,rfl,hb2⟩,(aJ _ _).drew.trans hw2⟩⟩
theorem KH(d:∀x∈xs,yZ x/\fw x)(f:nm.length<=12)(g:xs.length<=1000000):DJ (nd 5 a n nm c l r (chain xs)):=by
 intro w C j mv m fs ns k v o p q;have s:=jI (GA d f g w C j mv m fs ns k v o p q);obtain⟨b,vl,vr,t,u,y,rfl,z,A,B,D,E,F⟩:=jM q;have H:=jc 0 z;have I:Hid (ck (eU fs) ns (nd 5 a n nm c l r (chain xs)) []=bx (cv (eU fs) ns (nd 5 a n nm c l r (chain xs))) λ_=> .ok 1):=by
  show _=_;unfold cv;rw[ii,Cz];cases eU fs nm with
  |none=>rfl
  |some J=>
   show(if _ then _ else _)=bx (if _ then _ else _) _;split
   ·rfl
   ·rw[ii];rfl
 have K:Hid (∀e w',nH (ck (eU fs) ns (nd 5 a n nm c l r (chain xs)) []) w e w'->nH (ck (eU fs) ns (nd 5 a n nm c l r (chain xs)) []) w e w'):=λ_ _ h=>h;generalize L:nH (ck (eU fs) ns (nd 5 a n nm c l r (chain xs)) []) w=G at*;clear K;have K:Hid (∀e w',nH (ck (eU fs) ns (nd 5 a n nm c l r (chain xs)) []) w e w'->G e w'):=λe w' h=>by rw[<-L];exact h
 generalize cv (eU fs) ns (nd 5 a n nm c l r (chain xs))=R0 at*;generalize ck (eU fs) ns (nd 5 a n nm c l r (chain xs)) []=R1 at*;clear d o p q z A B D E F L;go_enter Tryz.func156,Tryz.ntmps156
 go_wp2_with(go_at_call 210;fail)
 refine s.mono ?_;rintro e w1 ⟨⟨M,rfl⟩|⟨N,O,M,P,rfl,Q⟩,S⟩
 ·have T:=jI S;have U:=jI M;clear S M;go_wp2;refine K _ _ ⟨.inl ⟨1,?_,rfl⟩,T⟩
  rw[I.out,U.out];rfl
 ·refine⟨rfl,K _ _ ⟨.inr ⟨N,O,?_,P,rfl,Q⟩,S⟩⟩;rw[I.out,M];rfl
theorem yl:∀(xs:List Tr),fD (chain xs)->∀x∈xs,fD x
 |[],_,x,a=>by simp at a
 |y::xs,h,x,a=>by
  have b:fD (.slice [y] [chain xs]):=h;rw[fD]at b;rcases aY.1 a with rfl|a
  ·exact b.2.1
  ·exact yl xs b.2.2 x a
theorem oB(h:RE f d t):fw t:=MD h
theorem GC:∀(f d:Nat)(t:Tr),RE f d t->fD t->DJ t
 |0,_,_,h,_=>h.elim
 |f+1,d,t,h,b=>by
  have c:∀(d:Nat)(t:Tr),RE f d t->fD t->yZ t:=λd t h g=>Ct (oB h) (GC f d t h g);rw[RE]at h;rcases h.2 with⟨a,n,i,h1,rfl⟩|⟨a,nm,j,rfl⟩|⟨a,k,l,r,h1,h2,m,rfl⟩|⟨a,k,l,h1,h2,rfl⟩|⟨a,nm,xs,h1,h2,rfl⟩|⟨a,l,h2,rfl⟩|⟨a,l,h2,rfl⟩|⟨a,l,r,h2,m,rfl⟩|⟨a,rfl⟩
  all_goals
   rw[fD]at b;obtain⟨-,-,-,-,-,-,gl,o,p,zs,q,s⟩:=b
  ·exact PU
  ·exact Lk
  ·exact PX (c _ l h2 gl) (c _ r m o)
  ·exact Sn (c _ l h2 gl)
  ·have e:=lf q;subst e;refine KH (λx u=>⟨c _ x (h2 x u) ?_,oB (h2 x u)⟩) h1.2.2.2.2 s;exact yl xs p x u
  ·exact PV (c _ l h2 gl)
  ·exact PW (c _ l h2 gl)
  ·exact Ll (c _ l h2 gl) (c _ r m o)
  ·exact Hp
def oG(lk:By->Option Nm)(g:Tr)(s:Nm×Nat):X (Nm×Nat):=bx (gw lk g s) λs'=> .ok (s.1,s'.2)
def Qv(t:Tr):Prop:=∀(w:jW)(C:Nat)(a mv b:jU)(fs:List eR)(ns:Nm)(k:Nat)(cs:Array Value),qR w C a mv b ns k->yY w C a mv fs->ey (Lo C) w (cc t ce) cs.toList->aA 103 #[jP C,.agg cs] w (qK (gw (eU fs) (cc t ce) (ns,k)) C a mv w)
def NH(g:Tr):Prop:=∀(w:jW)(C:Nat)(a mv b:jU)(fs:List eR)(ns:Nm)(k:Nat)(v:jU)(n:Nat)(cs:jE),qR w C a mv b ns k->yY w C a mv fs->fy (Lo C) w 147 7 v n cs->ey (Lo C) w g cs->aA 66 #[jP C,v] w (qK (oG (eU fs) g (ns,k)) C a mv w)
theorem oV(lk:By->Option Nm)(s:Nm×Nat):gw lk ce s= .ok s:=by
 rw[gw]
 all_goals simp
theorem NI(lk:By->Option Nm)(c a:Int)(nm:By)(b v d el g:Tr)(s:Nm×Nat):gw lk (cc (st c a nm b v d el) g) s=bx (gw lk (cc (st c a nm b v d el) ce) s) λs'=>gw lk g s':=by
 rw[gw,gw,ii];congr 1
def Jl(t:Tr):Prop:=∃c a nm b v d el,t=st c a nm b v d el
theorem NJ(h:Jl t)(lk:By->Option Nm)(g:Tr)(s:Nm×Nat):gw lk (cc t g) s=bx (gw lk (cc t ce) s) λs'=>gw lk g s':=by
 obtain⟨c,a,nm,b,v,d,el,rfl⟩:=h;exact NI lk c a nm b v d el g s
theorem Jm{s s':Nm×Nat}{v:By×Int}(h:kW s v a= .ok s'):∃ex,s'.1=s.1++ex:=by
 unfold kW at h;split at h
 ·cases h
 ·split at h
  ·cases h
  ·injection h with h;subst h;exact⟨[v],rfl⟩
theorem NK(h:Jl t)(lk:By->Option Nm)(s s':Nm×Nat)(b:gw lk (cc t ce) s= .ok s'):∃ex,s'.1=s.1++ex:=by
 obtain⟨c,a,nm,d,v,e,el,rfl⟩:=h;rw[gw]at b;obtain⟨f,h1,h2⟩:=eE b;rw[show gw lk (.slice [] []) f=gw lk ce f from rfl,oV]at h2;injection h2 with h2;subst h2;split at h1
 ·obtain⟨t,_,g⟩:=eE h1;exact Jm g
 ·split at h1
  ·split at h1
   ·cases h1
   ·obtain⟨_,_,g⟩:=eE h1;injection g with g;subst g;exact⟨[],by simp⟩
  ·split at h1
   ·split at h1
    ·cases h1
    ·split at h1
     ·cases h1
     ·obtain⟨_,_,g⟩:=eE h1;obtain⟨_,_,i⟩:=eE g;injection i with i;subst i;exact⟨[],by simp⟩
   ·obtain⟨_,_,g⟩:=eE h1;obtain⟨_,_,i⟩:=eE g;obtain⟨_,_,j⟩:=eE i;injection j with j;subst j;exact⟨[],by simp⟩
theorem Eo{n c m:Nat}{cs:jE}(h:w.ownsRow B e z (jL q n c) n cs)(a:m<=n):w.ownsRow B e z (jL q m c) m (cs.take (m*z)):=by
 have b:=h.1;refine⟨by rw[dO,b];exact dC (dA z a),?_⟩;rcases h.2 with⟨d,f⟩|⟨g,i,j,d,f,k,l,o,p,r⟩
 ·injection d with a1 a2 a3;subst a1;subst a3;have:m=0:=by omega
  subst this;exact .inl ⟨rfl,rfl⟩
 ·injection d with a1 a2 a3;subst a1;subst a3;refine .inr ⟨g,c,j,rfl,f,k,by omega,o,p,?_⟩;rw[<-r,List.take_take];congr 1;exact(dC (dA z a)).symm
theorem Jn{n c:Nat}{cs:jE}(h:w.ownsRow B e z (jL q n c) n cs):n<=c:=by
 rcases h.2 with⟨a,b⟩|⟨g,d,f,a,_,_,i,_⟩
 ·injection a with a1 a2 a3;omega
 ·injection a with a1 a2 a3;omega
theorem Jo(w:jW):(sizeOf (Tryz.prog.elem 65)).run Tryz.prog w= .ok 2 w:=by kernel_rfl
theorem NL:Tryz.prog.underlying 65=some (.slice (Tryz.prog.elem 65)):=by kernel_rfl
theorem CC(q:jO)(n c m:Nat)(w:jW)(h:m<=c):(Instr.slice 65 (jL q n c) none (some (jV (m:Int))) none).run Tryz.prog w= .ok (jL q m c) w:=by
 rw[run_slice_h w 65 q n c NL .i64 (m:Int) (by omega) (by omega),Jo];show Result.ok (sliced q 0 (m:Int).toNat c 2) w=_;unfold sliced;have e:q.map (·.add (0*2))=q:=by cases q<;>simp[Addr.add]
 rw[e];simp
theorem Ep(ns ex:Nm):(lA (ns++ex)).take (ns.length*2)=lA ns:=by
 have e:lA (ns++ex)=lA ns++lA ex:=by simp[lA]
 have l:(lA ns).length=ns.length*2:=by
  induction ns with
  |nil=>rfl
  |cons x ns a=>simp[lA]at a⊢;omega
 rw[e,<-l,List.take_left]
theorem wU(a:∀x∈xs,Qv x/\Jl x)(b:xs.length<=1000000):NH (chain xs):=by
 intro w C d mv f fs ns k v n cs o r s t;obtain⟨q,c,rfl⟩:=eh s.1;obtain⟨y,z,rfl⟩:=eh o.row;have A:=xJ xs cs t;have B:n=xs.length:=by have h1:=A.1;have h2:=s.1.1;omega
 have D:=jI B;have E:n<=1000000:=by omega
 obtain⟨F,H,I,J,K⟩:=j5 A.2 o r s a;have L:=jc 2 o.blk;have M:Hid (∀e w',qK (oG (eU fs) (chain xs) (ns,k)) C d mv w e w'->qK (oG (eU fs) (chain xs) (ns,k)) C d mv w e w'):=λ_ _ h=>h;generalize N:qK (oG (eU fs) (chain xs) (ns,k)) C d mv w=G at*;clear M;have M:Hid (∀e w',qK (oG (eU fs) (chain xs) (ns,k)) C d mv w e w'->G e w'):=λe w' h=>by rw[<-N];exact h
 have O:ns.length<=12:=by have:=o.le;have:=o.k12;omega
 obtain⟨m,P⟩:=aB ns.length;have Q:=jI P;rw[<-P]at L O H;clear a b o r s t A B N P;go_enter Tryz.func66,Tryz.ntmps66
 go_wp2_with fail
 go_loopw [14] (λv wr=>∃i:Nat,i<=n/\v=jV i/\Hid (∃(S:Nm)(T:Nat)(U:jU)(V:Nm),S=ns++V/\gw (eU fs) (chain xs) (ns,k)=gw (eU fs) (chain (xs.drop i)) (S,T)/\qR wr C d mv U S T/\Below C w wr/\Kt w wr)) (λv _=>n-(intOf v).toNat)
 case atStart=>exact⟨0,aQ _,rfl,ns,k,jL y m z,[],by simp,by simp,H,aJ _ _,λ_ _ _ _ _ h=>h⟩
 case round=>
  obtain⟨i,W,rfl,Y⟩:=hrel;obtain⟨S,T,U,V,Z,f,E,a,b⟩:=Y.out;obtain⟨o,r,t,A,B⟩:=j5 b a E f Z;clear Y Z f E a b;by_cases L:i<n
  ·obtain⟨g,N,e,-,-⟩:=J.out.1.form (by omega);injection e with O e2 e3;subst O;clear e2 e3;obtain⟨x,P⟩:∃x,xs[i]?=some x:=⟨xs[i]'(by have:=D.out;omega),aI (by have:=D.out;omega)⟩;obtain⟨y,z,H,W,Y,Z,f,a,b,N,A0,A1,A2⟩:=F i x P;have F:=(J.kept (eu r) (by decide)).1;have hc:∀j u,(#[jV y,jV z,jT H,jQ W,jQ Y,jL Z f a,jL b N A0]:Array Value)[j]?=some u->wr.cell? (jB g (i*7+j))=some u:=λj u J=>by
    have:=F.cells (g:=g) rfl (i*7+j) u (A2 j u J);rw[gv]at this;exact this
   have J:=hc 0 _ rfl;have A3:=hc 1 _ rfl;have A4:=hc 2 _ rfl;have A5:=hc 3 _ rfl;have A6:=hc 4 _ rfl;have A7:=hc 5 _ rfl;have A8:=hc 6 _ rfl;rw[cn]at J;obtain⟨A9,B0⟩:=K x (aM P);have K:az wr (wr.alloc (jC #[jV y,jV z,jT H,jQ W,jQ Y,jL Z f a,jL b N A0] 147)):=(aJ _ _).alloc (aD _) _;have B1:Below C w (wr.alloc (jC #[jV y,jV z,jT H,jQ W,jQ Y,jL Z f a,jL b N A0] 147)):=r.alloc (aL t.lt) _;have B2:Hid (aA 103 #[jP C,.agg #[jV y,jV z,jT H,jQ W,jQ Y,jL Z f a,jL b N A0]] (wr.alloc (jC #[jV y,jV z,jT H,jQ W,jQ Y,jL Z f a,jL b N A0] 147)) (qK (gw (eU fs) (cc x ce) (S,T)) C d mv (wr.alloc (jC #[jV y,jV z,jT H,jQ W,jQ Y,jL Z f a,jL b N A0] 147)))):=
    A9 _ C d mv U fs S T _ (t.below K) (I.below B1) (ey.kept (eu B1) _ _ A1)
   have I:=jI (λw' (hk:Kt (wr.alloc (jC #[jV y,jV z,jT H,jQ W,jQ Y,jL Z f a,jL b N A0] 147)) w')=>(o.trans (fp K)).trans hk);have B3:=jI (λw' (B4:Below C (wr.alloc (jC #[jV y,jV z,jT H,jQ W,jQ Y,jL Z f a,jL b N A0] 147)) w')=>B1.trans B4);have y:Hid (gw (eU fs) (chain (xs.drop i)) (S,T)=bx (gw (eU fs) (cc x ce) (S,T)) λs'=>gw (eU fs) (chain (xs.drop (i+1))) s'):=by
    show _=_;have O:xs.drop i=x::xs.drop (i+1):=by
     rw[bn (by have:=D.out;omega)];congr 1;have:=aI (l:=xs) (i:=i) (by have:=D.out;omega);rw[P]at this;exact(aS this).symm
    rw[O];exact NJ B0 (eU fs) (chain (xs.drop (i+1))) (S,T)
   have H:=jI (λs' (h:gw (eU fs) (cc x ce) (S,T)= .ok s')=>NK B0 _ _ _ h);clear F hc A2 A1 P A9 B0 K B1
   go_wp2_with(go_at_call 103;fail)
   refine B2.mono ?_;rintro e W ⟨⟨Y,Z,f,s,rfl,a⟩|⟨b,N,s,O,rfl,P⟩,F,K⟩
   ·have B5:Hid (∃(S:Nm)(T:Nat)(U:jU)(V:Nm),S=ns++V/\gw (eU fs) (chain xs) (ns,k)=gw (eU fs) (chain (xs.drop (i+1))) (S,T)/\qR W C d mv U S T/\Below C w W/\Kt w W):=by
     obtain⟨ex2,d⟩:=H _ s;refine⟨Y,Z,f,V++ex2,?_,?_,a,B3 _ F,I _ K⟩
     ·have:Y=S++ex2:=d;rw[this,B.out,dn]
     ·rw[A.out,y.out,s];rfl
    clear s a F K J A3 A4 A5 A6 A7 A8;go_wp2;exact⟨⟨i+1,by omega,by go_num,B5⟩,by simp[intOf];omega⟩
   ·refine⟨rfl,M _ _ ⟨.inr ⟨b,N,?_,O,rfl,P⟩,B3 _ F,I _ K⟩⟩;unfold oG;rw[A.out,y.out,s];rfl
  ·obtain rfl:i=n:=by omega
   have U:Hid (oG (eU fs) (chain xs) (ns,k)= .ok (ns,T)):=by
    show _=_;unfold oG;rw[A.out,bg (by have:=D.out;omega),show chain []=ce from rfl,oV];rfl
   have E:=t.out;obtain⟨A3,W,rfl⟩:=eh E.row;have s:=jc 2 E.blk;have V:=ea E.blk 2;have J:m<=S.length:=by rw[Q.out,B.out];simp
   have I:=Eo E.row J;have y:=Jn E.row;have H:∀wx:jW,(Instr.slice 65 (jL A3 S.length W) none (some (jV (m:Int))) none).run Tryz.prog wx= .ok (jL A3 m W) wx:=λwx=>CC A3 _ W m wx (by omega);have Y:=jI I;have Z:Hid ((lA S).take (m*2)=lA ns):=by show _=_;rw[B.out,Q.out,Ep]
   have f:Hid (m<=T/\T<=12):=⟨by have:=E.le;omega,E.k12⟩;have a:=jI E.blk;generalize S.length=z at*;clear L E I y J;go_wp2;go_end0;refine M _ _ ⟨.inl ⟨ns,T,jL A3 m W,U,rfl,?_,?_,?_,?_⟩,?_,?_⟩
   ·exact aH _ _ _ _ _ _ a
   ·rw[<-Q.out,<-Z.out];exact dt Y (by show C<C+1;omega) _
   ·rw[<-Q.out];exact f.out.1
   ·exact f.out.2
   ·exact r.setCell (p:=(jB C 2)) (aD _) _
   ·exact o.trans (Ag a)
theorem AP(lk:By->Option Nm)(x:X (Nm×Nat)):(bx x λs'=>gw lk (.slice [] []) s')=x:=by
 cases x with
 |error e=>rfl
 |ok s=>show gw lk ce s=_;rw[oV]
theorem sw(lk:By->Option Nm)(a:Int)(nm:By)(b v c el:Tr)(s:Nm×Nat):gw lk (cc (st 1 a nm b v c el) ce) s=bx (ck lk s.1 v []) λt=>kW s (nm,t) a:=by
 rw[gw,AP];simp
theorem uB(lk:By->Option Nm)(a:Int)(nm:By)(b v c el:Tr)(s:Nm×Nat):gw lk (cc (st 2 a nm b v c el) ce) s=(match gP s.1 nm with|none=> .error (7,a)|some k=>bx (mu lk s.1 v k) λ_=> .ok s):=by
 rw[gw,AP];simp;cases gP s.1 nm<;>rfl
theorem uC(lk:By->Option Nm)(a:Int)(nm:By)(b v c el:Tr)(s:Nm×Nat):gw lk (cc (st 3 a nm b v c el) ce) s=(match gP s.1 nm with|none=> .error (7,a)|some k=>if k≠2 then .error (1,a) else bx (mu lk s.1 b 1) λ_=>bx (mu lk s.1 v 1) λ_=> .ok s):=by
 rw[gw,AP];simp;cases gP s.1 nm<;>simp
theorem QV(lk:By->Option Nm)(c a:Int)(nm:By)(b v d el:Tr)(s:Nm×Nat)(h1:c≠1)(h2:c≠2)(e:c≠3):gw lk (cc (st c a nm b v d el) ce) s=bx (mu lk s.1 v 1) λ_=>bx (oG lk d s) λs1=>oG lk el s1:=by
 rw[gw,AP];rw[if_neg h1,if_neg h2,if_neg e];congr 1
 funext _
 unfold oG;rw[ii];rfl
theorem vy{c:Int}{b v d:Tr}(h:ey S w (cc (st c a nm b v d el) ce) cs.toList):∃(f g:jO)(i j:jU)(nt k:Nat)(ts es:jE),cs=#[jV c,jV a,str nm,jQ f,jQ g,i,j]/\ej S w b (jQ f)/\ej S w v (jQ g)/\fy S w 147 7 i nt ts/\ey S w d ts/\fy S w 147 7 j k es/\ey S w el es:=by
 obtain⟨f,g,i,j,nt,k,ts,es,rest,e,l,m,n,o,p,q,r⟩:=Jx h;have s:rest=[]:=by
  have:ey S w (.slice [] []) rest:=r;rw[ey]at this;exact this
 subst s;refine⟨f,g,i,j,nt,k,ts,es,?_,l,m,n,o,p,q⟩;have:=congrArg List.toArray e;rw[bM]at this;exact this
theorem pH{c:Int}{b v d:Tr}(f:4<=c)(g:c<=8)(j:yZ v)(l:NH d)(m:NH el):Qv (st c a nm b v d el):=by
 intro w C n mv o fs ns k cs p q r;obtain⟨s,t,u,x,nt,z,ts,A,rfl,B,D,E,F,H,I⟩:=vy r;obtain⟨y,J,K⟩:=fU nm;rw[J];have L:=jI K;obtain⟨M,N,rfl⟩:=eh E.1;obtain⟨O,P,rfl⟩:=eh H.1;obtain⟨W0,Q⟩:=aB (w.alloc (jC #[jV c,jV a,jT y,jQ s,jQ t,jL M nt N,jL O z P] 147));have S:az w W0:=by rw[Q];exact(aJ _ _).alloc (aD _) _
 have T:W0.heap[w.heap.size]?=some (jC #[jV c,jV a,jT y,jQ s,jQ t,jL M nt N,jL O z P] 147):=by rw[Q];exact heap_alloc_last w _
 have U:=S.mono (aL p.lt);obtain⟨V,W,Y,Z,f,g,u,x,L⟩:=j9 (p.below S) (q.below U) ((eu U).ex B) ((eu U).ex D) (E.kept (eu U) (by decide)) (ey.kept (eu U) _ _ F) (H.kept (eu U) (by decide)) (ey.kept (eu U) _ _ I) U;obtain⟨s,t,M⟩:=j3 (fp S) T p.lt;have N:=jc 0 T;have O:=jc 1 T;have P:=jc 2 T;have Y:=jc 3 T;have M:=jc 4 T;rw[Q]at N O P Y M;have A0:((c:Int)==1)=false:=by simp;omega
 have A1:((c:Int)==2)=false:=by simp;omega
 have A2:((c:Int)==3)=false:=by simp;omega
 have A3:=jI (QV (eU fs) c a nm b v d el (ns,k) (by omega) (by omega) (by omega));have A4:Hid (∀e w',qK (gw (eU fs) (cc (st c a nm b v d el) ce) (ns,k)) C n mv w e w'->qK (gw (eU fs) (cc (st c a nm b v d el) ce) (ns,k)) C n mv w e w'):=λ_ _ h=>h;generalize A5:qK (gw (eU fs) (cc (st c a nm b v d el) ce) (ns,k)) C n mv w=G at*;clear A4;have A4:Hid (∀e w',qK (gw (eU fs) (cc (st c a nm b v d el) ce) (ns,k)) C n mv w e w'->G e w'):=λe w' h=>by rw[<-A5];exact h
 generalize gw (eU fs) (cc (st c a nm b v d el) ce) (ns,k)=R0 at*;clear p q r B D E F H I J K S T U A5;go_enter Tryz.func103,Tryz.ntmps103
 go_wp2_with(go_at_call 157;fail)
 rw[<-Q];clear Q N O P Y M;refine(j W0 C n mv o fs ns k _ 1 V W Z).mono ?_;rintro e w1 ⟨⟨b,rfl⟩|⟨j,p,b,q,rfl,r⟩,B⟩
 rotate_left
 ·refine⟨rfl,A4 _ _ ⟨.inr ⟨j,p,?_,q,rfl,r⟩,L.trans (B.mono (aL V.lt)),s.trans (fp B)⟩⟩;rw[A3.out,b];rfl
 have U:=B.mono (aL V.lt);obtain⟨D,E,F,H,I,J,K,Q,S⟩:=j9 b (V.below B) (W.below U) (f.kept (eu U) (by decide)) (ey.kept (eu U) _ _ g) (u.kept (eu U) (by decide)) (ey.kept (eu U) _ _ x) (L.trans U) (s.trans (fp B));have T:=oo (C:=C) t B;have Z:=jc 5 T;have N:=jI T;clear U B b T
 go_wp2_with(go_at_call 66;fail)
 refine(l w1 C n mv o fs ns k _ nt ts E F H I).mono ?_;rintro e O ⟨⟨P,Y,M,b,rfl,V⟩|⟨j,p,b,q,rfl,r⟩,B,W⟩
 rotate_left
 ·refine⟨rfl,A4 _ _ ⟨.inr ⟨j,p,?_,q,rfl,r⟩,Q.trans B,S.trans W⟩⟩;rw[A3.out,D.out];show bx (oG (eU fs) d (ns,k)) _=_;rw[b];rfl
 obtain⟨f,g,u,x,L,s,t⟩:=j7 b V (F.below B) (J.kept (eu B) (by decide)) (ey.kept (eu B) _ _ K) (Q.trans B) (S.trans W);have l:=W _ _ 147 (by decide) (by decide) N;have o:=jc 6 l;clear b V B W l Z
 go_wp2_with(go_at_call 66;fail)
 refine(m O C n mv M fs P Y _ z A g u x L).mono ?_;rintro e U ⟨⟨E,H,I,b,rfl,T⟩|⟨j,p,b,q,rfl,r⟩,B,W⟩
 rotate_left
 ·refine⟨rfl,A4 _ _ ⟨.inr ⟨j,p,?_,q,rfl,r⟩,s.trans B,t.trans W⟩⟩;rw[A3.out,D.out];show bx (oG (eU fs) d (ns,k)) _=_;rw[f.out];exact b
 have F:Hid (G (jR (.tuple #[])) U):=A4 _ _ ⟨.inl ⟨E,H,I,by
  rw[A3.out,D.out];show bx (oG (eU fs) d (ns,k)) _=_;rw[f.out];exact b,rfl,T⟩,s.trans B,t.trans W⟩
 clear b T B W o;go_wp2;go_end0;exact F
theorem NN{m v p:Tr}(IV:DJ v):Qv (st 1 a nm m v p el):=by
 intro w C l mv Z fs ns k cs Y hf H;obtain⟨B,D,vt,ve,nt,E,ts,es,rfl,N,T,u,r,A,W⟩:=vy H;obtain⟨y,hy,Q⟩:=fU nm;rw[hy];have HY:Hid (y.data.toList=nm):=Q;obtain⟨I,J,rfl⟩:=eh u.1;obtain⟨K,V,rfl⟩:=eh A.1;obtain⟨W0,d⟩:=aB (w.alloc (.cells #[.int .i64 1,.int .i64 a,.string y,.pointer B,.pointer D,.slice I nt J,.slice K E V] 147));have q:az w W0:=by rw[d];exact(aJ _ _).alloc (aD _) _
 have b:W0.heap[w.heap.size]?=some (.cells #[.int .i64 1,.int .i64 a,.string y,.pointer B,.pointer D,.slice I nt J,.slice K E V] 147):=by rw[d];exact heap_alloc_last w _
 have c:=q.mono (aL Y.lt);have L:Hid (qR W0 C l mv Z ns k):=Y.below q;have A3:Hid (yY W0 C l mv fs):=hf.below c;have A9:Hid (ej (Lo C) W0 m (.pointer B)):=(eu c).ex N;have A2:Hid (ej (Lo C) W0 v (.pointer D)):=(eu c).ex T;have B5:Hid (fy (Lo C) W0 147 7 (.slice I nt J) nt ts):=u.kept (eu c) (by decide);have B3:Hid (ey (Lo C) W0 p ts):=ey.kept (eu c) _ _ r;have B2:Hid (fy (Lo C) W0 147 7 (.slice K E V) E es):=A.kept (eu c) (by decide);have B1:Hid (ey (Lo C) W0 el es):=ey.kept (eu c) _ _ W;have A6:Hid (Below C w W0):=c;have A7:Hid (Kt w W0):=fp q;have A0:Hid (W0.heap[w.heap.size]?=some (.cells #[.int .i64 1,.int .i64 a,.string y,.pointer B,.pointer D,.slice I nt J,.slice K E V] 147)):=b;have B4:Hid (C<w.heap.size):=Y.lt;have z0:=jc 0 b;have z1:=jc 1 b;have z2:=jc 2 b;have z3:=jc 3 b;have z4:=jc 4 b;rw[d]at z0 z1 z2 z3 z4;have HE:Hid (gw (eU fs) (cc (st 1 a nm m v p el) ce) (ns,k)=bx (ck (eU fs) ns v []) λt=>kW (ns,k) (nm,t) a):=sw (eU fs) a nm m v p el (ns,k);have f:Hid (∀e w',qK (gw (eU fs) (cc (st 1 a nm m v p el) ce) (ns,k)) C l mv w e w'->qK (gw (eU fs) (cc (st 1 a nm m v p el) ce) (ns,k)) C l mv w e w'):=λ_ _ h=>h;generalize hG:qK (gw (eU fs) (cc (st 1 a nm m v p el) ce) (ns,k)) C l mv w=G at*;clear f;have f:Hid (∀e w',qK (gw (eU fs) (cc (st 1 a nm m v p el) ce) (ns,k)) C l mv w e w'->G e w'):=λe w' h=>by rw[<-hG];exact h
 generalize gw (eU fs) (cc (st 1 a nm m v p el) ce) (ns,k)=R0 at*;clear Y hf H N T u r A W hy Q q b c hG;have U:Hid (qR W0.drew C l mv Z ns k):=L.out.below (aJ _ _).drew;have A8:Hid (yY W0.drew C l mv fs):=A3.out.below (aJ _ _).drew;have M:Hid (ej (Lo C) W0.drew v (.pointer D)):=(eu (aJ _ _).drew).ex A2.out;have B0:Hid (ej (Lo C) W0.drew m (.pointer B)):=(eu (aJ _ _).drew).ex A9.out;have P:Hid (W0.drew.heap[w.heap.size]?=some (.cells #[.int .i64 1,.int .i64 a,.string y,.pointer B,.pointer D,.slice I nt J,.slice K E V] 147)):=A0.out;have z:Hid (∀w',Below W0.drew.heap.size W0.drew w'->Below C w w'/\Kt w w'):=λw' h=>by
  have h1:az W0 w':=(aJ _ _).drew.trans h;exact⟨A6.out.trans (h1.mono (aL L.out.lt)),A7.out.trans (fp h1)⟩
 go_enter Tryz.func103,Tryz.ntmps103
 go_wp2_with fail
 rw[<-d]at z0 z1 z2 z3 z4⊢;clear d
 go_region_with(first
  |(go_at_call 156;refine(IV W0.drew C l mv Z fs ns k _ U.out A8.out M.out).mono ?_;rintro e w1 ⟨⟨t,o,rfl⟩|⟨k1,a1,o,b1,rfl,x⟩,j⟩;rotate_left;exact(by refine⟨rfl,f.out _ _ ⟨.inr ⟨k1,a1,?_,b1,rfl,x⟩,(z.out _ j).1,(z.out _ j).2⟩⟩;rw[HE.out,o];rfl);have O:Hid (ck (eU fs) ns v []= .ok t):=o;have A4:Hid (qR w1 C l mv Z ns k):=U.out.below j;have n:Hid (Below C w w1/\Kt w w1):=z.out _ j;have g:=oo (C:=C) P.out j;have y1:=jc 1 g;have y2:=jc 2 g;clear o j g)
  |(go_at_call 65;refine(qx A4.out y t a).mono ?_;rintro e w2 ⟨⟨A5,k2,A1,o,rfl,S⟩|⟨k1,a1,o,b1,rfl,x⟩,j,s⟩;rotate_left;exact(by refine⟨rfl,f.out _ _ ⟨.inr ⟨k1,a1,?_,b1,rfl,x⟩,n.out.1.trans j,n.out.2.trans s⟩⟩;rw[HE.out,O.out];show kW (ns,k) (nm,t) a=_;rw[<-HY.out];exact o);have F:Hid (G (.returned (.tuple #[])) w2):=f.out _ _ ⟨.inl ⟨A5,k2,A1,(by rw[HE.out,O.out];show kW (ns,k) (nm,t) a=_;rw[<-HY.out];exact o),rfl,S⟩,n.out.1.trans j,n.out.2.trans s⟩;clear o S j s))
 all_goals
  go_wp2;go_end0;exact F.out
theorem NP{v n:Tr}(IV:yZ v):Qv (st 2 a nm l v n el):=by
 intro w C j mv P fs ns k cs Z hf V;obtain⟨F,E,vt,ve,nt,H,ts,es,rfl,L,S,B,u,D,O⟩:=vy V;obtain⟨y,hy,T⟩:=fU nm;rw[hy];have HY:Hid (y.data.toList=nm):=T;obtain⟨W,Y,rfl⟩:=eh B.1;obtain⟨I,N,rfl⟩:=eh D.1;obtain⟨W0,g⟩:=aB (w.alloc (.cells #[.int .i64 2,.int .i64 a,.string y,.pointer F,.pointer E,.slice W nt Y,.slice I H N] 147));have s:az w W0:=by rw[g];exact(aJ _ _).alloc (aD _) _
 have b:W0.heap[w.heap.size]?=some (.cells #[.int .i64 2,.int .i64 a,.string y,.pointer F,.pointer E,.slice W nt Y,.slice I H N] 147):=by rw[g];exact heap_alloc_last w _
 have c:=s.mono (aL Z.lt);have J:Hid (qR W0 C j mv P ns k):=Z.below s;have A6:Hid (yY W0 C j mv fs):=hf.below c;have A8:Hid (ej (Lo C) W0 l (.pointer F)):=(eu c).ex L;have A4:Hid (ej (Lo C) W0 v (.pointer E)):=(eu c).ex S;have B3:Hid (fy (Lo C) W0 147 7 (.slice W nt Y) nt ts):=B.kept (eu c) (by decide);have B4:Hid (ey (Lo C) W0 n ts):=ey.kept (eu c) _ _ u;have B0:Hid (fy (Lo C) W0 147 7 (.slice I H N) H es):=D.kept (eu c) (by decide);have B1:Hid (ey (Lo C) W0 el es):=ey.kept (eu c) _ _ O;have A5:Hid (Below C w W0):=c;have A7:Hid (Kt w W0):=fp s;have A0:Hid (W0.heap[w.heap.size]?=some (.cells #[.int .i64 2,.int .i64 a,.string y,.pointer F,.pointer E,.slice W nt Y,.slice I H N] 147)):=b;have B2:Hid (C<w.heap.size):=Z.lt;have z0:=jc 0 b;have z1:=jc 1 b;have z2:=jc 2 b;have z3:=jc 3 b;have z4:=jc 4 b;rw[g]at z0 z1 z2 z3 z4;have HE:Hid (gw (eU fs) (cc (st 2 a nm l v n el) ce) (ns,k)=(match gP ns nm with|none=> .error (7,a)|some q=>bx (mu (eU fs) ns v q) λ_=> .ok (ns,k))):=uB (eU fs) a nm l v n el (ns,k);have f:Hid (∀e w',qK (gw (eU fs) (cc (st 2 a nm l v n el) ce) (ns,k)) C j mv w e w'->qK (gw (eU fs) (cc (st 2 a nm l v n el) ce) (ns,k)) C j mv w e w'):=λ_ _ h=>h;generalize hG:qK (gw (eU fs) (cc (st 2 a nm l v n el) ce) (ns,k)) C j mv w=G at*;clear f;have f:Hid (∀e w',qK (gw (eU fs) (cc (st 2 a nm l v n el) ce) (ns,k)) C j mv w e w'->G e w'):=λe w' h=>by rw[<-hG];exact h
 generalize gw (eU fs) (cc (st 2 a nm l v n el) ce) (ns,k)=R0 at*;clear Z hf V L S B u D O hy T s b c hG;have m:Hid (qR W0.drew C j mv P ns k):=J.out.below (aJ _ _).drew;have A2:Hid (yY W0.drew C j mv fs):=A6.out.below (aJ _ _).drew;have K:Hid (ej (Lo C) W0.drew v (.pointer E)):=(eu (aJ _ _).drew).ex A4.out;have A9:Hid (ej (Lo C) W0.drew l (.pointer F)):=(eu (aJ _ _).drew).ex A8.out;have Q:Hid (W0.drew.heap[w.heap.size]?=some (.cells #[.int .i64 2,.int .i64 a,.string y,.pointer F,.pointer E,.slice W nt Y,.slice I H N] 147)):=A0.out;have A:Hid (∀w',Below W0.drew.heap.size W0.drew w'->Below C w w'/\Kt w w'):=λw' h=>by
  have h1:az W0 w':=(aJ _ _).drew.trans h;exact⟨A5.out.trans (h1.mono (aL J.out.lt)),A7.out.trans (fp h1)⟩
 go_enter Tryz.func103,Tryz.ntmps103
 go_wp2_with fail
 rw[<-g]at z0 z1 z2 z3 z4⊢;clear g
 go_region_with(first
  |(go_at_call 158;refine(mI m.out y a).mono ?_;rintro e w1 ⟨⟨t,r,rfl⟩|⟨r,b1,rfl,z⟩,d⟩;rotate_left;exact(by refine⟨rfl,f.out _ _ ⟨.inr ⟨7,a,?_,b1,rfl,z⟩,(A.out _ d).1,(A.out _ d).2⟩⟩;rw[HE.out,<-HY.out,r]);have M:Hid (gP ns y.data.toList=some t):=r;have o:Hid (qR w1 C j mv P ns k):=m.out.below d;have A3:Hid (yY w1 C j mv fs):=A2.out.below (d.mono (aL m.out.lt));have A1:Hid (ej (Lo C) w1 v (.pointer E)):=(eu (d.mono (aL m.out.lt))).ex K.out;have p:Hid (Below C w w1/\Kt w w1):=A.out _ d;have x:=oo (C:=C) Q.out d;have y4:=jc 4 x;clear r d x)
  |(go_at_call 157;refine(IV w1 C j mv P fs ns k _ t o.out A3.out A1.out).mono ?_;rintro e w2 ⟨⟨r,rfl⟩|⟨k1,a1,r,b1,rfl,z⟩,d⟩;rotate_left;exact(by refine⟨rfl,f.out _ _ ⟨.inr ⟨k1,a1,?_,b1,rfl,z⟩,p.out.1.trans (d.mono (aL o.out.lt)),p.out.2.trans (fp d)⟩⟩;rw[HE.out,<-HY.out,M.out];show bx (mu (eU fs) ns v t) _=_;rw[r];rfl);have U:Hid (G (.returned (.tuple #[])) w2):=f.out _ _ ⟨.inl ⟨ns,k,P,(by rw[HE.out,<-HY.out,M.out];show bx (mu (eU fs) ns v t) _=_;rw[r];rfl),rfl,o.out.below d⟩,p.out.1.trans (d.mono (aL o.out.lt)),p.out.2.trans (fp d)⟩;clear r d))
 all_goals
  go_wp2;go_end0;exact U.out
theorem MG:Tryz.prog.underlying 92=some (.map 9 3):=by kernel_rfl
theorem tF(w:jW):(zeroValue 3).run Tryz.prog w= .ok (jV 0) w:=Tryz.zeroValue3 w
def po(w:jW)(b n:Nat)(a:List (By×Nat)):Prop:=w.ownsMap Tryz.prog 9 (plainElem (H:=Unit) Tryz.prog 3) b n (IE a)
theorem po.below{n:Nat}{ps:List (By×Nat)}(h:po w b n ps)(a:Below B w w')(c:b<B):po w' b n ps:=by
 obtain⟨d,e,h1,h2⟩:=h;exact⟨d,e,by rw[a.block b c];exact h1,h2⟩
theorem Pb{w:World}{n:Nat}{a:List (By×Nat)}(h:po w b n a)(c:n<100)(x:ByteArray)(d:x.size<=1000000)(i:Nat)(e:i<=100):
  ∃w',(Instr.mapUpdate 92 (.map (some b)) (.string x) (jV (i:Int))).run Tryz.prog w= .ok () w'/\po w' b (n+1) ((x.data.toList,i)::a)/\w.grownBy w' (some b):=by
 have f:keyOf Tryz.prog 9 (.string x)=some (.string x.data.toList):=Go.WideMaps.keyOf_string_mk Tryz.underlying9 (by unfold maxLen;omega);have g:plainElem (H:=Unit) Tryz.prog 3 (jV (i:Int))=some (.lit (.int .i64 (i:Int)),[]):=plainElem_int Tryz.underlying3 (by simp[Lit.wf,IntKind.min,IntKind.max,IntKind.signed,IntKind.bits];omega);exact World.ownsMap.update h (Maps.string_keyed Tryz.underlying9) MG (by unfold maxLen;omega) f g
theorem Gx(nm:By):∀a,Maps.has (IE a) (.string nm)=(a.lookup nm).isSome
 |[]=>by
  rw[Maps.has_false_of_atKey (λz=>by rw[vZ];rfl)];rfl
 |(x,i)::a=>by
  by_cases h:nm=x
  ·subst h;rw[IE,Maps.has_put_same (vY a) (by trivial)];simp[List.lookup]
  ·rw[IE,Maps.has_put_other (GD h),Gx nm a];have:(nm==x)=false:=by simpa using h
   simp[List.lookup,this]
theorem vX{w:World}{n:Nat}{c:List (By×Nat)}(h:po w b n c)(x:ByteArray)(d:x.size<=1000000):
  (Instr.lookup 92 (.map (some b)) (.string x) true).run Tryz.prog w= .ok (.tuple #[jV (((c.lookup x.data.toList).getD 0:Nat):Int),.bool (c.lookup x.data.toList).isSome]) w:=by
 have e:keyOf Tryz.prog 9 (.string x)=some (.string x.data.toList):=Go.WideMaps.keyOf_string_mk Tryz.underlying9 (by unfold maxLen;omega);have f:plainElem (H:=Unit) Tryz.prog 3 (jV 0)=some (.lit (.int .i64 0),[]):=plainElem_int Tryz.underlying3 (by decide);obtain⟨v,g,j,k⟩:=World.ownsMap.look_ok h (Maps.string_keyed Tryz.underlying9) MG (tF w) f e;rw[j,Gx];rw[vZ]at k;have l:v=jV (((c.lookup x.data.toList).getD 0:Nat):Int):=by
  obtain⟨a,rfl,h1,_⟩:=plainElem_int_inv Tryz.underlying3 k;have h1:=congrArg Prod.fst h1;clear k j e f h;cases m:c.lookup x.data.toList with
  |none=>
   rw[m]at h1;have h2:=h1;simp only[bV,cR,true_and]at h2;rw[<-h2];rfl
  |some i=>
   rw[m]at h1;have h2:=h1;simp only[bV,cR,true_and]at h2;rw[<-h2];rfl
 rw[l]
def uO:Nat->List eR->List (By×Nat)->List (By×Nat)
 |_,[],ps=>ps
 |i,F::L,ps=>uO (i+1) L ((F.nm,i)::ps)
theorem yh:∀(L:List eR) (i:Nat) (a:List (By×Nat)) (F:eR),uO i (L++[F]) a=(F.nm,i+L.length)::uO i L a
 |[],i,a,F=>rfl
 |G::L,i,a,F=>by
  show uO (i+1) (L++[F]) _=_;rw[yh L (i+1) _ F];show _=(F.nm,i+(L.length+1))::_;rw[show i+1+L.length=i+(L.length+1) by omega];rfl
theorem yi(nm:By):∀(L:List eR) (i:Nat) (a:List (By×Nat)),(∀F∈L,F.nm≠nm)->(uO i L a).lookup nm=a.lookup nm
 |[],_,_,_=>rfl
 |F::L,i,a,h=>by
  show(uO (i+1) L ((F.nm,i)::a)).lookup nm=_;rw[yi nm L (i+1) _ (λG b=>h G (by simp[b]))];have:(nm==F.nm)=false:=by
   simp only[beq_eq_false_iff_ne,ne_eq];exact λe=>h F (by simp) e.symm
  simp[List.lookup,this]
theorem tG(nm:By):∀(L:List eR) (i:Nat) (a:List (By×Nat)),(L.map (·.nm)).Nodup->(∀F∈L,a.lookup F.nm=none)->(uO i L a).lookup nm=(match IP nm L with|some j=>some (i+j)|none=>a.lookup nm)
 |[],_,_,_,_=>rfl
 |F::L,i,a,b,c=>by
  rw[bO,cj]at b;show(uO (i+1) L ((F.nm,i)::a)).lookup nm=_;rw[IP];by_cases h:F.nm=nm
  ·rw[if_pos h,yi nm L (i+1) _ (λG d e=>b.1 (aT.2 ⟨G,d,by rw[e,h]⟩))];subst h;simp[List.lookup]
  ·rw[if_neg h,tG nm L (i+1) _ b.2 (λG d=>by
    have:(G.nm==F.nm)=false:=by
     simp only[beq_eq_false_iff_ne,ne_eq];exact λe=>b.1 (aT.2 ⟨G,d,e⟩)
    rw[bU,this];exact c G (by simp[d]))]
   cases IP nm L with
   |none=>
    have:(nm==F.nm)=false:=by
     simp only[beq_eq_false_iff_ne,ne_eq];exact λe=>h e.symm
    simp[List.lookup,this]
   |some j=>
    show some (i+1+j)=some (i+(j+1));rw[show i+1+j=i+(j+1) by omega]
def QC(l:List eR)(n:Nat)(w:jW)(e:Ending)(w':jW):Prop:=((twice [] l= .ok ()/\e=jR (.map (some w.heap.size))/\po w' w.heap.size n (uO 0 l []))\/(∃k a,twice [] l= .error (k,a)/\o7 k a e w'))/\az w w'
theorem pj(w:World)(v:Value)(n:Nat)(cs:List Value)(l:List eR)(hr:fy S w 86 4 v n cs)(hn:n=l.length)(A5:n<=12)(P:∀F∈l,F.nm.length<=1000000)
  (ho:∀(i:Nat)(f:eR),l[i]?=some f->∃(vp vb:Value)(nb:Nat)(C:List Value),fy S w 144 2 vp f.ps.length (lA f.ps)/\fy S w 147 7 vb nb C/\ey S w f.body C/\cs[i*4]?=some (str f.nm)/\cs[i*4+1]?=some (.int .i64 f.at')/\cs[i*4+2]?=some vp/\cs[i*4+3]?=some vb):
  aA 39 #[v] w (QC l n w):=by
 have A7:∀W:World,(Instr.makeMap 92 (some (.int .i64 (n:Int)))).run Tryz.prog W= .ok (.map (some W.heap.size)) (W.alloc (.map #[] 0)):=λW=>by simp[Instr.makeMap,go_sem]
 obtain⟨q,c,rfl⟩:=eh hr.1;have m0:po (w.alloc (.map #[] 0)) w.heap.size 0 []:=World.ownsMap_made w Tryz.prog 9 (plainElem (H:=Unit) Tryz.prog 3);obtain⟨A3,HR,HO⟩:=j3 m0 hr ho;have B:Hid (n=l.length/\∀F∈l,F.nm.length<=1000000):=⟨hn,P⟩;have r:Hid (∀e w',QC l n w e w'->QC l n w e w'):=λ_ _ h=>h;generalize hG:QC l n w=G at*;clear r;have r:Hid (∀e w',QC l n w e w'->G e w'):=λe w' h=>by rw[<-hG];exact h
 clear hr ho hn P m0 hG;go_enter Tryz.func39,Tryz.ntmps39
 go_wp2_with fail
 go_loopw [13] (λv wr=>∃i:Nat,i<=n/\v= .int .i64 i/\Hid (∃ns,twice [] l=twice ns (l.drop i)/\∀nm,ns.contains nm=((uO 0 (l.take i) []).lookup nm).isSome)/\Hid (po wr w.heap.size i (uO 0 (l.take i) []))/\Hid (az w wr)) (λv _=>n-(intOf v).toNat)
 case atStart=>exact⟨0,aQ _,rfl,⟨[],by simp,λnm=>by simp[uO]⟩,A3.out,(aJ _ _).alloc (aD _) _⟩
 case round=>
  obtain⟨i,A8,rfl,U,HP,V⟩:=hrel;by_cases A0:i<n
  ·obtain⟨g,A9,e,-,-⟩:=HR.out.1.form (by omega);injection e with e1 e2 e3;subst e1;clear e2 e3;obtain⟨F,J⟩:∃F,l[i]?=some F:=⟨l[i]'(by have:=B.out.1;omega),aI (by have:=B.out.1;omega)⟩;obtain⟨vp,vb,nb,C,r1,r2,r3,Q,a1,a2,a3⟩:=HO.out i F J;obtain⟨qp,cp,rfl⟩:=eh r1.1;obtain⟨qb,cb,rfl⟩:=eh r2.1;obtain⟨y,Z,d⟩:=fU F.nm;rw[Z]at Q;have A:y.size<=1000000:=by rw[<-MH,d];exact B.out.2 F (aM J)
   have o:=HR.out.1.kept (iN V.out) (.inr (by simp[Value.ownBlock]));have hc:∀(j:Nat)(u:Value),cs[i*4+j]?=some u->wr.cell? ⟨g,i*4+j,none⟩=some u:=λj u hu=>by
    have:=o.cells (g:=g) rfl (i*4+j) u hu;rw[gv]at this;exact this
   have q0:=hc 0 _ Q;have q1:=hc 1 _ a1;have q2:=hc 2 _ a2;have q3:=hc 3 _ a3;rw[cn]at q0;have E:l.take (i+1)=l.take i++[F]:=by rw[List.take_add_one,J];rfl
   have s:uO 0 (l.take (i+1)) []=(y.data.toList,i)::uO 0 (l.take i) []:=by
    rw[E,yh,d,dO,dC (by have:=B.out.1;omega)];simp
   have I:l.drop i=F::l.drop (i+1):=by
    rw[bn (by have:=B.out.1;omega)];congr 1;have:=aI (l:=l) (i:=i) (by have:=B.out.1;omega);rw[J]at this;exact(aS this).symm
   obtain⟨ns,b,m⟩:=U.out;rw[I,twice,m F.nm,<-d]at b;obtain⟨K,D⟩:=aB F.at';rw[<-D]at q1 b;generalize F.ps.length=np at*;have z:az wr (wr.alloc (.cells #[.string y,.int .i64 K,.slice qp np cp,.slice qb nb cb] 86)):=(aJ _ _).alloc (aD _) _;have L:=World.ownsMap.lt HP.out;have p:=HP.below z L;have a:=vX p y A;have t:=jI (V.trans (z.mono V.size));cases T:(uO 0 (l.take i) []).lookup y.data.toList with
   |some j=>
    rw[T]at a b;have x:=a;have HT:Hid (twice [] l= .error (9,K)):=by show _=_;rw[b];rfl
    clear o hc Q a1 a2 a3 J r1 r2 r3 Z d E s I b m D a p z T U
    go_wp2_with(go_at_call 64;fail)
    refine(jp 9 K _).mono ?_;rintro e w2 ⟨⟨b2,rfl,A1⟩,hw⟩;exact⟨rfl,r.out _ _ ⟨.inr ⟨9,K,HT.out,b2,rfl,A1⟩,t.trans (hw.mono t.size)⟩⟩
   |none=>
    rw[T]at a b;have x:=a;obtain⟨w2,A6,M,O⟩:=Pb p (by omega) y A i (by omega);have Y:Hid (∃ns,twice [] l=twice ns (l.drop (i+1))/\∀nm,ns.contains nm=((uO 0 (l.take (i+1)) []).lookup nm).isSome):=by
     refine⟨F.nm::ns,by rw[b,d];rfl,λnm=>?_⟩;rw[s,dI,bU,m nm,d];cases nm==F.nm<;>simp
    have A2:Hid (po w2 w.heap.size (i+1) (uO 0 (l.take (i+1)) [])):=by show po _ _ _ _;rw[s];exact M
    have A4:Hid (az w w2):=t.grown O t.size (λk e=>by injection e with e;omega);clear o hc Q a1 a2 a3 J r1 r2 r3 Z d E s I b m D a p z T U M O;go_wp2;exact⟨⟨i+1,by omega,by go_num,Y,A2,A4⟩,by simp[intOf];omega⟩
  ·obtain rfl:i=n:=by omega
   have N:Hid (G (.returned (.map (some w.heap.size))) wr):=r.out _ _ ⟨.inl ⟨(by
    obtain⟨ns,h1,_⟩:=U.out;rw[h1,bg (by have:=B.out.1;omega)];rfl),rfl,(by have:=HP.out;rw[cr (by have:=B.out.1;omega)]at this;exact this)⟩,V.out⟩
   clear A0;go_wp2;exact N.out
theorem OV{b v c:Tr}(d:yZ b)(f:yZ v):Qv (st 3 a nm b v c el):=by
 intro w C g mv j fs ns k cs l m n;obtain⟨o,p,q,r,nt,s,ts,u,rfl,x,z,A,B,D,E⟩:=vy n;obtain⟨y,F,H⟩:=fU nm;rw[F];have I:=jI H;obtain⟨J,K,rfl⟩:=eh A.1;obtain⟨L,M,rfl⟩:=eh D.1;obtain⟨W0,N⟩:=aB (w.alloc (jC #[jV 3,jV a,jT y,jQ o,jQ p,jL J nt K,jL L s M] 147));have O:az w W0:=by rw[N];exact(aJ _ _).alloc (aD _) _
 have P:W0.heap[w.heap.size]?=some (jC #[jV 3,jV a,jT y,jQ o,jQ p,jL J nt K,jL L s M] 147):=by rw[N];exact heap_alloc_last w _
 have Q:=O.mono (aL l.lt);obtain⟨S,T,U,V,W,Y,Z,q,r⟩:=j9 (l.below O) (m.below Q) ((eu Q).ex x) ((eu Q).ex z) (A.kept (eu Q) (by decide)) (ey.kept (eu Q) _ _ B) (D.kept (eu Q) (by decide)) (ey.kept (eu Q) _ _ E) Q;obtain⟨u,o,p⟩:=j3 (fp O) P l.lt;have s:=jc 0 P;have J:=jc 1 P;have K:=jc 2 P;have L:=jc 3 P;have M:=jc 4 P;rw[N]at s J K L M;have W:=jI (uC (eU fs) a nm b v c el (ns,k));have Y:Hid (∀e w',qK (gw (eU fs) (cc (st 3 a nm b v c el) ce) (ns,k)) C g mv w e w'->qK (gw (eU fs) (cc (st 3 a nm b v c el) ce) (ns,k)) C g mv w e w'):=λ_ _ h=>h;generalize Z:qK (gw (eU fs) (cc (st 3 a nm b v c el) ce) (ns,k)) C g mv w=G at*;clear Y;have Y:Hid (∀e w',qK (gw (eU fs) (cc (st 3 a nm b v c el) ce) (ns,k)) C g mv w e w'->G e w'):=λe w' h=>by rw[<-Z];exact h
 generalize gw (eU fs) (cc (st 3 a nm b v c el) ce) (ns,k)=R0 at*;clear l m n x z A B D E F H O P Q Z;have q:Hid (∀w',az W0 w'->Below C w w'/\Kt w w'):=λw' h1=>⟨r.trans (h1.mono (aL S.lt)),u.trans (fp h1)⟩;go_enter Tryz.func103,Tryz.ntmps103
 go_wp2_with(go_at_call 158;fail)
 rw[<-N];clear N s J K L M;refine(mI S y a).mono ?_;rintro e w1 ⟨⟨t,p,rfl⟩|⟨p,c,rfl,l⟩,m⟩
 rotate_left
 ·refine⟨rfl,Y _ _ ⟨.inr ⟨7,a,?_,c,rfl,l⟩,(q _ m).1,(q _ m).2⟩⟩;rw[W.out,<-I.out,p]
 have n:=jI p;have x:=m.mono (aL S.lt);obtain⟨z,A,B,D,E⟩:=j5 (S.below m) (T.below x) ((eu x).ex V) ((eu x).ex U) (q _ m);have F:=oo (C:=C) o m;have H:=jc 1 F;have O:=jc 3 F;have P:=jI F;clear p m F x
 all_goals
  by_cases Z:t=2
  ·subst Z
   go_wp2_with(go_at_call 157;fail)
   refine(d w1 C g mv j fs ns k _ 1 z A D).mono ?_;rintro e N ⟨⟨p,rfl⟩|⟨r,u,p,c,rfl,l⟩,m⟩
   rotate_left
   ·refine⟨rfl,Y _ _ ⟨.inr ⟨r,u,?_,c,rfl,l⟩,E.out.1.trans (m.mono (aL z.lt)),E.out.2.trans (fp m)⟩⟩;rw[W.out,<-I.out,n.out];show(if(2:Int)≠2 then _ else bx (mu (eU fs) ns b 1) _)=_;rw[if_neg (by simp),p];rfl
   have Q:=m.mono (aL z.lt);obtain⟨s,J,K,L,M⟩:=j5 p (z.below m) (A.below Q) ((eu Q).ex B) (jN (E.out.1.trans Q) (E.out.2.trans (fp m)));have S:=jc 4 (oo (C:=C) P m);clear Q p m H O
   go_wp2_with(go_at_call 157;fail)
   refine(f N C g mv j fs ns k _ 1 J K L).mono ?_;rintro e T ⟨⟨p,rfl⟩|⟨r,u,p,c,rfl,l⟩,m⟩
   rotate_left
   ·refine⟨rfl,Y _ _ ⟨.inr ⟨r,u,?_,c,rfl,l⟩,M.out.1.trans (m.mono (aL J.lt)),M.out.2.trans (fp m)⟩⟩;rw[W.out,<-I.out,n.out];show(if(2:Int)≠2 then _ else bx (mu (eU fs) ns b 1) _)=_;rw[if_neg (by simp),s.out];show bx (mu (eU fs) ns v 1) _=_;rw[p];rfl
   have V:Hid (G (jR (.tuple #[])) T):=Y _ _ ⟨.inl ⟨ns,k,j,(by
    rw[W.out,<-I.out,n.out];show(if(2:Int)≠2 then _ else bx (mu (eU fs) ns b 1) _)=_;rw[if_neg (by simp),s.out];show bx (mu (eU fs) ns v 1) _=_;rw[p];rfl),rfl,J.below m⟩,M.out.1.trans (m.mono (aL J.lt)),M.out.2.trans (fp m)⟩
   clear p m S;go_wp2;go_end0;exact V
  ·have U:((t:Int)==2)=false:=by simpa using Z
   go_wp2_with(go_at_call 64;fail)
   refine(jp 1 a w1).mono ?_;rintro e N ⟨⟨q,rfl,o⟩,m⟩;refine⟨rfl,Y _ _ ⟨.inr ⟨1,a,?_,q,rfl,o⟩,E.out.1.trans (m.mono (aL z.lt)),E.out.2.trans (fp m)⟩⟩;rw[W.out,<-I.out,n.out];show(if t≠2 then _ else _)=_;rw[if_pos Z]
theorem BG(h:RS f d t):Jl t:=Bj h
theorem q8:∀(xs:List Tr),fV (chain xs)->∀x∈xs,fV (cc x ce)
 |[],_,x,b=>by simp at b
 |y::xs,h,x,b=>by
  have d:=h;obtain⟨c,a,nm,e,v,f,el,rfl,h1,h2,g,i,j,k,l,m,n,o,p⟩:=km d;rcases aY.1 b with rfl|b
  ·exact tM h1 h2 g i j k l m n o qh
  ·exact q8 xs p x b
theorem mO(h:yw d t)(g:fD t):DJ t/\yZ t:=by
 obtain⟨e,h⟩:=h;have:=GC e d t h g;exact⟨this,Ct (oB h) this⟩
theorem Ge:∀(f d:Nat)(t:Tr),RS f d t->fV (cc t ce)->Qv t
 |0,_,_,h,_=>h.elim
 |f+1,d,t,h,j=>by
  have k:∀(d:Nat)(xs:List Tr),(∀x∈xs,RS f d x)->fV (chain xs)->qw (chain xs)<=1000000->NH (chain xs):=λd xs l g hc=>wU (λx m=>⟨Ge f d x (l x m) (q8 xs g x m),BG (l x m)⟩) (by rw[ig]at hc;exact hc);obtain⟨c,a,nm,n,v,o,el,rfl,h1,h2,p,q,r,s,u,w,y,z,A⟩:=km j;rw[RS]at h;rcases h with⟨B,C,D,E,F,e⟩|⟨B,C,D,E,F,e⟩|⟨B,C,i,D,E,G,F,e⟩|⟨B,D,xs,H,hd,F,l,I,e⟩|⟨B,D,xs,hd,F,l,e⟩|⟨B,D,F,e⟩|⟨B,D,F,e⟩|⟨B,b,C,xs,E,⟨J,l⟩,e⟩
  all_goals
   simp only[st,dD,bW,bV,cR,cK,true_and,and_true]at e;obtain⟨rfl,rfl,rfl,rfl,rfl,rfl,rfl⟩:=e
  ·exact NN (mO F s).1
  ·exact NP (mO F s).2
  ·exact OV (mO G q).2 (mO F s).2
  ·exact pH (by omega) (by omega) (mO F s).2 (k _ xs l u w) (k _ H I y z)
  ·exact pH (by omega) (by omega) (mO F s).2 (k _ xs l u w) (k (d+1) [] (λx l=>by simp at l) y z)
  ·exact pH (by omega) (by omega) (mO F s).2 (k (d+1) [] (λx l=>by simp at l) u w) (k (d+1) [] (λx l=>by simp at l) y z)
  ·exact pH (by omega) (by omega) (mO F s).2 (k (d+1) [] (λx l=>by simp at l) u w) (k (d+1) [] (λx l=>by simp at l) y z)
  ·have F:yw 0 (nd 5 b 0 C [] .nil .nil (chain xs)):=⟨J+1,by
    rw[RE];exact⟨by omega,.inr (.inr (.inr (.inr (.inl ⟨_,_,_,E,l,rfl⟩))))⟩⟩
   exact pH (by omega) (by omega) (mO F s).2 (k (d+1) [] (λx l=>by simp at l) u w) (k (d+1) [] (λx l=>by simp at l) y z)
theorem Gf(h:∀x∈xs,RS e 1 x)(g:fV (chain xs))(hc:qw (chain xs)<=1000000):NH (chain xs):=wU (λx a=>⟨Ge e 1 x (h x a) (q8 xs g x a),BG (h x a)⟩) (by rw[ig]at hc;exact hc)
def Qx(r:X Unit)(C:Nat)(w:jW)(e:Ending)(w':jW):Prop:=((r= .ok ()/\e=jR (.tuple #[]))\/(∃k a,r= .error (k,a)/\o7 k a e w'))/\Below C w w'/\Kt w w'
theorem vE{F:eR}(a:NH F.body)(b:F.ps.length<=1000000)(w:jW)(C:Nat)(c mv d:jU)(fs:List eR)(f j:jU)(k:Nat)(m:jE)(nm:ByteArray)(n:qR w C c mv d [] 0)(o:yY w C c mv fs)(p:fy (Lo C) w 144 2 f F.ps.length (lA F.ps))(q:fy (Lo C) w 147 7 j k m)(r:ey (Lo C) w F.body m):
  aA 40 #[jP C,.agg #[jT nm,jV F.at',f,j]] w (Qx (uM (eU fs) F) C w):=by
 obtain⟨t,cp,rfl⟩:=eh p.1;obtain⟨u,cb,rfl⟩:=eh q.1;obtain⟨z,A⟩:=aB F.at';have B:=jI A;rw[<-A];obtain⟨np,D⟩:=aB F.ps.length;have E:=jI D;rw[<-D]at p b⊢;obtain⟨W0,H⟩:=aB (w.alloc (jC #[jT nm,jV z,jL t np cp,jL u k cb] 86));have I:az w W0:=by rw[H];exact(aJ _ _).alloc (aD _) _
 have J:W0.heap[w.heap.size]?=some (jC #[jT nm,jV z,jL t np cp,jL u k cb] 86):=by rw[H];exact heap_alloc_last w _
 have K:=I.mono (aL n.lt);obtain⟨L,M,N,O,P,Q,S,T⟩:=j8 (n.below I) (o.below K) (p.kept (eu K) (by decide)) (q.kept (eu K) (by decide)) (ey.kept (eu K) _ _ r) K (fp I) J;have U:=jc 2 J;rw[H]at U;have V:Hid (uM (eU fs) F=bx (ly z F.ps ([],0)) λs=>bx (gw (eU fs) F.body s) λ_=> .ok ()):=by show _=_;rw[B.out];rfl
 have W:Hid (∀e w',Qx (uM (eU fs) F) C w e w'->Qx (uM (eU fs) F) C w e w'):=λ_ _ h=>h;generalize Y:Qx (uM (eU fs) F) C w=G at*;clear W;have W:Hid (∀e w',Qx (uM (eU fs) F) C w e w'->G e w'):=λe w' h=>by rw[<-Y];exact h
 generalize uM (eU fs) F=R0 at*;clear n o p q r A D I J K Y;go_enter Tryz.func40,Tryz.ntmps40
 go_wp2_with fail
 rw[<-H];clear H U
 go_loopw [9] (λv wr=>∃i:Nat,i<=np/\v=jV i/\Hid (∃(Z:Nm)(f:Nat)(j:jU),ly z F.ps ([],0)=ly z (F.ps.drop i) (Z,f)/\qR wr C c mv j Z f/\Below C W0 wr/\Kt W0 wr)) (λv _=>np-(intOf v).toNat)
 case atStart=>exact⟨0,aQ _,rfl,[],0,d,by simp,L,aJ _ _,λ_ _ _ _ _ h=>h⟩
 case round=>
  obtain⟨i,b,rfl,t⟩:=hrel;obtain⟨Z,f,j,u,B,n,o⟩:=t.out;obtain⟨p,q,r,A⟩:=j4 n o B u;have D:=o _ _ 86 (by decide) (by decide) T;clear t u B n o;by_cases H:i<np
  ·obtain⟨g,I,e,-,-⟩:=N.out.1.form (by omega);injection e with J e2 e3;subst J;clear e2 e3;obtain⟨x,K⟩:∃x,F.ps[i]?=some x:=⟨F.ps[i]'(by have:=E.out;omega),aI (by have:=E.out;omega)⟩;obtain⟨U,Y⟩:=kV F.ps i x K;obtain⟨y,d,L⟩:=fU x.1;rw[d]at U;have b:=(N.kept (eu p) (by decide)).1;have T:wr.cell? (jB g (i*2))=some (jT y):=by
    have:=b.cells (g:=g) rfl (i*2) _ U;rw[gv]at this;exact this
   have t:wr.cell? (jB g (i*2+1))=some (jV x.2):=by
    have:=b.cells (g:=g) rfl (i*2+1) _ Y;rw[gv]at this;exact this
   have u:Hid (ly z (F.ps.drop i) (Z,f)=bx (kW (Z,f) (y.data.toList,x.2) z) λs'=>ly z (F.ps.drop (i+1)) s'):=by
    show _=_;have J:F.ps.drop i=x::F.ps.drop (i+1):=by
     rw[bn (by have:=E.out;omega)];congr 1;have:=aI (l:=F.ps) (i:=i) (by have:=E.out;omega);rw[K]at this;exact(aS this).symm
    rw[J,L];rfl
   obtain⟨ty,B⟩:=aB x.2;rw[<-B]at t u;have n:az wr (wr.alloc (jC #[jT y,jV ty] 144)):=(aJ _ _).alloc (aD _) _;have o:=jI (r.below n);have I:=jI (jN (p.trans (n.mono (aL r.lt))) (q.trans (fp n)));have N:(wr.alloc (jC #[jT y,jV ty] 144)).cell? (jB w.heap.size 1)=some (jV z):=jc 1 (ez D _);clear b U Y K d L B n D
   go_wp2_with(go_at_call 65;fail)
   refine(qx o y ty z).mono ?_;rintro e J ⟨⟨K,U,Y,d,rfl,L⟩|⟨b,B,d,n,rfl,o⟩,A0,A1⟩
   ·have A2:Hid (∃(Z:Nm)(f:Nat)(j:jU),ly z F.ps ([],0)=ly z (F.ps.drop (i+1)) (Z,f)/\qR J C c mv j Z f/\Below C W0 J/\Kt W0 J):=⟨K,U,Y,(by rw[A.out,u.out,d];rfl),L,I.out.1.trans A0,I.out.2.trans A1⟩;clear d L A0 A1 T t N;go_wp2;exact⟨⟨i+1,by omega,by go_num,A2⟩,by simp[intOf];omega⟩
   ·refine⟨rfl,W _ _ ⟨.inr ⟨b,B,?_,n,rfl,o⟩,Q.trans (I.out.1.trans A0),S.trans (I.out.2.trans A1)⟩⟩;rw[V.out,A.out,u.out,d];rfl
  ·obtain rfl:i=np:=by omega
   have z:Hid (R0=bx (gw (eU fs) F.body (Z,f)) λ_=> .ok ()):=by
    show _=_;rw[V.out,A.out,bg (by have:=E.out;omega)];rfl
   have T:=jc 3 D;obtain⟨t,I,u⟩:=j3 (M.below p) (O.kept (eu p) (by decide)) (ey.kept (eu p) _ _ P);clear H D
   go_wp2_with(go_at_call 66;fail)
   refine(a wr C c mv j fs Z f _ k m r t I u).mono ?_;rintro e J ⟨⟨K,U,Y,d,rfl,L⟩|⟨b,B,d,n,rfl,o⟩,A0,A1⟩
   ·have N:Hid (G (jR (.tuple #[])) J):=W _ _ ⟨.inl ⟨(by
     unfold oG at d;obtain⟨s',h1,_⟩:=eE d;rw[z.out,h1];rfl),rfl⟩,Q.trans (p.trans A0),S.trans (q.trans A1)⟩
    clear d L A0 A1 T;go_wp2;go_end0;exact N
   ·refine⟨rfl,W _ _ ⟨.inr ⟨b,B,?_,n,rfl,o⟩,Q.trans (p.trans A0),S.trans (q.trans A1)⟩⟩;rw[z.out];unfold oG at d;cases hc:gw (eU fs) F.body (Z,f) with
    |error x=>
     rw[hc]at d;injection d with d;rw[d];rfl
    |ok s'=>
     rw[hc]at d;cases d
theorem pk(p:Addr)(w:jW):
  CallsD Tryz.prog 38 #[jQ (some p)] .returning w λe a w'=>e=jR (.tuple #[])/\a= .returning/\w'=w:=by
 have h1:=Am;refine callsD_of_wpS Tryz.func38 rfl λb cs c=>?_;apply wpS_seq;apply wpS_region;simp[wpOpsS,go_sem,recoverD,c,Tryz.ntmps38,Exit.thenS]
 apply wpS_seq;apply wpS_seq;apply wpS_region;simp[wpOpsS,go_sem,Exit.thenS,h1]
 refine wpS_cond (t:=true) (by simp[Act.eval,Array.replicate]) ?_;simp only[if_true];refine wpS_of_wp (wp_ret ?_);cases b
 simp_all [bodyPostS,results,Tryz.results38,Exit.thenS]
theorem rA(b a:Nat)(x:jU)(w:jW)(h1:w.cell? (jA b)=some x)(c:w.frozen? (jA b)=false):
  CallsD Tryz.prog 38 #[jP b] (.panicking [{v:= .iface 72 (jP a),recovered:=false}]) w λe d w'=>e=jR (.tuple #[])/\d= .panicking [{v:= .iface 72 (jP a),recovered:=true}]/\w'=w.setCell (jA b) (.iface 72 (jP a)):=by
 have f:=Ci;have g:=MW;refine callsD_of_wpS Tryz.func38 rfl λh cs i=>?_;apply wpS_seq;apply wpS_region;simp[wpOpsS,go_sem,recoverD,i,Tryz.ntmps38,Exit.thenS]
 apply wpS_seq;apply wpS_seq;apply wpS_region;simp[wpOpsS,go_sem,Exit.thenS,f]
 refine wpS_cond (t:=false) (by simp[Act.eval,Array.replicate]) ?_;simp only[bI,if_false];refine wpS_of_wp (wp_skip ?_);simp only[Exit.thenS];apply wpS_seq;apply wpS_region;simp[wpOpsS,go_sem,Exit.thenS,g]
 apply wpS_seq;apply wpS_seq;apply wpS_region;simp[wpOpsS,go_sem,Exit.thenS]
 refine wpS_cond (t:=false) (by simp[Act.eval,Array.replicate]) ?_;simp only[bI,if_false];refine wpS_of_wp (wp_skip ?_);simp only[Exit.thenS];apply wpS_region;simp[wpOpsS,go_sem,h1,c,bodyPostS,results,Tryz.results38]
theorem yg(a:Array Value)(W:jW)(b:Nat)(x:jU)(c:a[2]?.getD undef=jP b)(h1:W.cell? (jA b)=some x):
  (results Tryz.f16 a).run Tryz.prog W= .ok x W:=by
 simp[results,Tryz.results16,go_sem,c,h1]
structure ze (S:Nat->Prop) (w:jW) (v:jU) (l:List eR):Prop where
 row:∃cs,fy S w 86 4 v l.length cs/\∀(i:Nat)(f:eR),l[i]?=some f->∃(vp vb:jU)(nb:Nat)(bcs:jE),fy S w 144 2 vp f.ps.length (lA f.ps)/\fy S w 147 7 vb nb bcs/\ey S w f.body bcs/\cs[i*4]?=some (str f.nm)/\cs[i*4+1]?=some (jV f.at')/\cs[i*4+2]?=some vp/\cs[i*4+3]?=some vb
theorem ze.kept{l:List eR}(h:ze S w v l)(hk:eJ S w w'):ze S w' v l:=by
 obtain⟨cs,h1,h2⟩:=h.row;refine⟨cs,h1.kept hk (by decide),λi f a=>?_⟩;obtain⟨b,c,d,e,g,j,k,m⟩:=h2 i f a;exact⟨b,c,d,e,g.kept hk (by decide),j.kept hk (by decide),ey.kept hk _ _ k,m⟩
theorem ze.mono{a:Nat->Prop}{l:List eR}(h:ze S w v l)(c:∀b,S b->b<w.heap.size->a b):ze a w v l:=by
 obtain⟨cs,h1,h2⟩:=h.row;refine⟨cs,h1.mono c,λi f d=>?_⟩;obtain⟨e,g,j,k,m,n,o,p⟩:=h2 i f d;exact⟨e,g,j,k,m.mono c,n.mono c,ey.mono c _ _ o,p⟩
theorem Ru{a:Nat}{l:List eR}(b:ze (Lo C) w v l)(c:C<=w.heap.size)(d:a<C)(f:po w a l.length (uO 0 l []))(h:(l.map (·.nm)).Nodup)(k:l.length<=12)(m:∀F∈l,F.ps.length<=1000000):yY w C v (.map (some a)) l:=by
 refine⟨c,λw' n i F o=>?_,λw' n nm p=>?_,k⟩
 ·obtain⟨cs,h1,h2⟩:=(b.kept (eu n)).row;obtain⟨q,r,s,t,u,x,y,z,A,B,D⟩:=h2 i F o;have E:i<l.length:=(aK.1 o).1;obtain⟨g,G,e,-,-⟩:=h1.1.form (by omega);subst e;refine⟨g,G,q,rfl,?_,u.1,m F (aM o)⟩;have:=h1.1.cells (g:=g) rfl (i*4+2) q B;rw[gv]at this;exact this
 ·have H:=f.below n d;rw[vX H nm p,tG nm.data.toList l 0 [] h (λF _=>rfl)];cases IP nm.data.toList l with
  |none=>rfl
  |some j=>simp
def Lq(r:X Bool)(w:jW)(e:Ending)(w':jW):Prop:=((r= .ok true/\e=jR .nilIface)\/(r= .ok false/\e=jR (.iface 46 (jV 8)))\/(∃k a b,r= .error (k,a)/\e=jR (.iface 72 (jP b))/\w'.heap[b]?=some (jC #[jV k,jV a] 139)))/\az w w'
theorem uW(w:World)(v:Value)(l:List eR)(hl:ze (Lo w.heap.size) w v l)(A3:l.length<=12)(hg:∀F∈l,qF F/\RF F):
  aA 16 #[v] w (Lq (chk l) w):=by
 have F1:∀(fn:Fn)(first V:Array Value)(w:World),(Instr.makeFunc fn first V).run Tryz.prog w= .ok (.func fn first V) w:=λ_ _ _ _=>rfl;obtain⟨F3,C4,E5⟩:=hl.row;obtain⟨q,c,rfl⟩:=eh C4.1;obtain⟨W0,K⟩:=aB (w.alloc (.cells #[.nilIface] 34));have A9:az w W0:=by rw[K];exact(aJ _ _).alloc (aD _) _
 have D1:W0.heap.size=w.heap.size+1:=by rw[K];simp
 have B5:W0.heap[w.heap.size]?=some (.cells #[.nilIface] 34):=by rw[K];exact heap_alloc_last w _
 have A4:ze (Lo W0.heap.size) W0 (.slice q l.length c) l:=(hl.kept (eu A9)).mono (λb r _=>by have:b<w.heap.size:=r;show b<W0.heap.size;omega);obtain⟨cs,U,ho⟩:=A4.row;have C9:∀F∈l,F.nm.length<=1000000:=λF hF=>by have:=(hg F hF).2.2.1.2.2.2.2;omega
 have B4:Hid (aA 39 #[.slice q l.length c] W0 (QC l l.length W0)):=pj W0 _ l.length cs l U rfl A3 C9 ho;obtain⟨C6,C7,B9,C1,B0⟩:=j5 A4 A9 D1 B5 hg;have E:Hid (∀e w',Lq (chk l) w e w'->Lq (chk l) w e w'):=λ_ _ h=>h;generalize hG:Lq (chk l) w=G at*;clear E;have E:Hid (∀e w',Lq (chk l) w e w'->G e w'):=λe w' h=>by rw[<-hG];exact h
 have A0:Hid (∀(k a:Int)(b:Nat)(W:World),W.heap[b]?=some (.cells #[.int .i64 k,.int .i64 a] 139)->az W0 W->chk l= .error (k,a)->
   W.cell? ⟨w.heap.size,0,none⟩=some .nilIface/\W.frozen? ⟨w.heap.size,0,none⟩=false/\
   (W.setCell ⟨w.heap.size,0,none⟩ (.iface 72 (.pointer (some ⟨b,0,none⟩)))).cell? ⟨w.heap.size,0,none⟩=some (.iface 72 (.pointer (some ⟨b,0,none⟩)))/\
   G (.returned (.iface 72 (.pointer (some ⟨b,0,none⟩)))) (W.setCell ⟨w.heap.size,0,none⟩ (.iface 72 (.pointer (some ⟨b,0,none⟩))))):=λk a b W ha r U=>by
  have hz:=B9.out;have he:W.heap[w.heap.size]?=some (.cells #[.nilIface] 34):=by rw[r.block _ (by omega)];exact C1.out
  have n1:b≠w.heap.size:=λe=>by
   rw[e,he]at ha;injection ha with ha;injection ha with _ h2;exact absurd h2 (by decide)
  have l2:(W.setCell ⟨w.heap.size,0,none⟩ (.iface 72 (.pointer (some ⟨b,0,none⟩)))).heap[w.heap.size]?=some (.cells #[.iface 72 (.pointer (some ⟨b,0,none⟩))] 34):=aH _ _ _ _ _ _ he;refine⟨jc 0 he,ea he 0,jc 0 l2,E.out _ _ ⟨.inr (.inr ⟨k,a,b,U,rfl,?_⟩),?_⟩⟩
  ·rw[aG _ _ _ _ (by show b≠w.heap.size;exact n1)];exact ha
  ·exact(C7.trans (r.mono (by omega))).setCell (p:=⟨w.heap.size,0,none⟩) (aD _) _
 obtain⟨n,hn⟩:=aB l.length;have Q:=jI hn;rw[<-hn]at B4 C6 A3⊢;clear hl hg C4 E5 A9 D1 B5 A4 U ho C9 hG hn
 go_enter_defers Tryz.func16,Tryz.ntmps16
 go_wp2_with(go_at_call 39;fail)
 rw[<-K];clear K;refine B4.mono ?_;rintro e w1 ⟨⟨ht,rfl,hp⟩|⟨k,a,ht,b,rfl,r⟩,hw⟩
 rotate_left
 ·have H:chk l= .error (k,a):=by unfold chk;rw[ht];rfl
  obtain⟨c1,f1,d1,hG⟩:=A0.out k a b w1 r hw H;refine bP (f:=38) (args:=#[.pointer (some ⟨w.heap.size,0,none⟩)]) (by simp) (by simp[go_sem]) ?_
  refine(rA w.heap.size b _ w1 c1 f1).mono ?_;rintro e u' w2 ⟨rfl,rfl,rfl⟩;exact⟨_,yg _ _ w.heap.size _ rfl d1,hG⟩
 obtain⟨HT,E3,D7,E6,S⟩:=j5 ht hp hw (C6.kept (eu hw)) (World.ownsMap.lt hp);clear ht hp hw;obtain⟨M,hM⟩:=aB W0.heap.size;have C0:=jI hM;rw[<-hM];clear hM;have D2:Hid (po w1 M n (uO 0 l [])):=by show po _ _ _ _;rw[C0.out];exact E3.out
 have A7:Hid (M<w1.heap.size):=by show _<_;rw[C0.out];exact S.out
 have B1:Hid ((l.map (·.nm)).Nodup):=((tB l []).1 HT.out).1;have E1:Hid (∀W,az w1 W->ze (Lo W0.heap.size) W (.slice q n c) l):=λW r=>E6.kept (eu (r.mono (aL S.out)));have A5:Hid (∀W,az w1 W->az W0 W):=λW r=>D7.trans (r.mono (aL S.out));have A1:Hid (chk l=bx (oL (eU l) l) λ_=> .ok (match eU l iC with|some []=>true|_=>false)):=by show _=_;unfold chk;rw[HT.out];rfl
 go_wp2_with fail
 go_loopw [14] (λv wr=>∃i:Nat,i<=n/\v= .int .i64 i/\Hid (oL (eU l) l=oL (eU l) (l.drop i))/\Hid (az w1 wr)) (λv _=>n-(intOf v).toNat)
 case atStart=>exact⟨0,aQ _,rfl,by show _=_;simp,aJ _ _⟩
 case round=>
  obtain⟨i,F2,rfl,HI,HB⟩:=hrel;have z:=E1.out wr HB.out;by_cases D5:i<n
  ·obtain⟨cs1,s,C⟩:=z.row;have d:fy (Lo W0.heap.size) wr 86 4 (.slice q n c) n cs1:=by rw[Q.out]at s⊢;exact s
   obtain⟨g,V,e,-,-⟩:=d.1.form (by omega);injection e with Z e2 e3;subst Z;clear e2 e3;obtain⟨F,hF⟩:∃F,l[i]?=some F:=⟨l[i]'(by have:=Q.out;omega),aI (by have:=Q.out;omega)⟩;obtain⟨vp,vb,nb,C3,r1,r2,r3,a0,a1,a2,a3⟩:=C i F hF;obtain⟨y,hy,D9⟩:=fU F.nm;rw[hy]at a0;have hc:∀(j:Nat)(u:Value),cs1[i*4+j]?=some u->wr.cell? ⟨g,i*4+j,none⟩=some u:=λj u hu=>by
    have:=d.1.cells (g:=g) rfl (i*4+j) u hu;rw[gv]at this;exact this
   have q0:=hc 0 _ a0;have q1:=hc 1 _ a1;have q2:=hc 2 _ a2;have q3:=hc 3 _ a3;rw[cn]at q0;obtain⟨gF,rF⟩:=B0.out F (aM hF);obtain⟨_,_,_,xs,e0,o,C2⟩:=rF;have IB:NH F.body:=by rw[o];exact Gf C2 (by rw[<-o];exact gF.1) (by rw[<-o];exact gF.2.1)
   have D4:l.drop i=F::l.drop (i+1):=by
    rw[bn (by have:=Q.out;omega)];congr 1;have:=aI (l:=l) (i:=i) (by have:=Q.out;omega);rw[hF]at this;exact(aS this).symm
   have C8:Hid (oL (eU l) (l.drop i)=bx (uM (eU l) F) λ_=>oL (eU l) (l.drop (i+1))):=by show _=_;rw[D4];rfl
   obtain⟨qp,cp,rfl⟩:=eh r1.1;obtain⟨qb,cb,rfl⟩:=eh r2.1;obtain⟨W2,B⟩:=aB ((wr.alloc (.cells #[.string y,.int .i64 F.at',.slice qp F.ps.length cp,.slice qb nb cb] 86)).alloc (.cells #[.slice (some ⟨g,0,none⟩) n c,.map (some M),.slice none 0 0,.int .i64 0] 96));have Y:az wr W2:=by rw[B];exact((aJ _ _).alloc (aD _) _).alloc (by simp) _
   have D3:W2.heap.size=wr.heap.size+2:=by rw[B];simp
   have L:W2.heap[wr.heap.size+1]?=some (.cells #[.slice (some ⟨g,0,none⟩) n c,.map (some M),.slice none 0 0,.int .i64 0] 96):=by
    rw[B];have:=heap_alloc_last (wr.alloc (.cells #[.string y,.int .i64 F.at',.slice qp F.ps.length cp,.slice qb nb cb] 86)) (.cells #[.slice (some ⟨g,0,none⟩) n c,.map (some M),.slice none 0 0,.int .i64 0] 96);simpa using this
   have m:W2.heap[wr.heap.size]?=some (.cells #[.string y,.int .i64 F.at',.slice qp F.ps.length cp,.slice qb nb cb] 86):=by rw[B];exact ez (heap_alloc_last wr _) _
   have P:=HB.size;have E7:=S.out;have I:∀b,Lo W0.heap.size b->b<W2.heap.size->Lo (wr.heap.size+1) b:=λb r _=>by have:b<W0.heap.size:=r;show b<_;omega
   have O:eJ (Lo W0.heap.size) wr W2:=λb ds t r _ hk=>by rw[Y.block b (aC.1 hk).1];exact hk
   have B6:=(z.kept O).mono I;have B8:=D2.below (HB.trans (Y.mono P)) A7.out;have D0:yY W2 (wr.heap.size+1) (.slice (some ⟨g,0,none⟩) n c) (.map (some M)) l:=Ru B6 (by omega) (by have:=A7.out;omega) (by rw[<-Q.out];exact B8) B1.out (by rw[<-Q.out];exact A3) (λG hG=>(B0.out G hG).1.2.2);have H:qR W2 (wr.heap.size+1) (.slice (some ⟨g,0,none⟩) n c) (.map (some M)) (.slice none 0 0) [] 0:=⟨L,bj _ _ _ _,aD _,by omega⟩;have E4:Hid (aA 40 #[.pointer (some ⟨wr.heap.size+1,0,none⟩),.agg #[.string y,.int .i64 F.at',.slice qp F.ps.length cp,.slice qb nb cb]] W2 (Qx (uM (eU l) F) (wr.heap.size+1) W2)):=
    vE IB gF.2.2 W2 _ _ _ _ l _ _ nb C3 y H D0 ((r1.kept O (by decide)).mono I) ((r2.kept O (by decide)).mono I) (ey.mono I _ _ (ey.kept O _ _ r3))
   have B3:Hid (∀W,Below (wr.heap.size+1) W2 W->az w1 W):=λW r=>(HB.trans (Y.mono P)).trans (r.mono (by omega));have z0:=jc 0 m;have z1:=jc 1 m;have z2:=jc 2 m;have z3:=jc 3 m;rw[B]at z0 z1 z2 z3;generalize F.at'=aF at*;generalize F.ps.length=np at*;clear z s C d hF r1 r2 r3 a0 a1 a2 a3 hy D9 hc gF o C2 IB D4 Y D3 L m P E7 I O B6 B8 D0 H
   go_wp2_with(go_at_call 40;fail)
   rw[<-B];clear B z0 z1 z2 z3 q0 q1 q2 q3;refine E4.mono ?_;rintro e w2 ⟨⟨U,rfl⟩|⟨k,a,U,b,rfl,r⟩,hw,D6⟩
   ·have E2:Hid (oL (eU l) l=oL (eU l) (l.drop (i+1))):=by show _=_;rw[HI.out,C8.out,U];rfl
    have E0:=jI (B3.out _ hw);clear U hw D6;go_wp2;exact⟨⟨i+1,by omega,by go_num,E2,E0⟩,by simp[intOf];omega⟩
   ·have H:chk l= .error (k,a):=by rw[A1.out,HI.out,C8.out,U];rfl
    obtain⟨c1,f1,d1,hG⟩:=A0.out k a b w2 r (A5.out _ (B3.out _ hw)) H;refine bP (f:=38) (args:=#[.pointer (some ⟨w.heap.size,0,none⟩)]) (by simp) (by simp[go_sem]) ?_
    refine(rA w.heap.size b _ w2 c1 f1).mono ?_;rintro e u' w3 ⟨rfl,rfl,rfl⟩;exact⟨_,yg _ _ w.heap.size _ rfl d1,hG⟩
  ·obtain rfl:i=n:=by omega
   have A8:Hid (chk l= .ok (match eU l iC with|some []=>true|_=>false)):=by
    show _=_;rw[A1.out,HI.out,bg (by have:=Q.out;omega)];rfl
   have B7:po wr M i (uO 0 l []):=D2.below HB.out A7.out;have A:=vX B7 ⟨#[109,97,105,110]⟩ (by decide);have C5:(⟨#[109,97,105,110]⟩:ByteArray).data.toList=iC:=rfl;rw[C5,tG iC l 0 [] B1.out (λF _=>rfl)]at A;have hz:=B9.out;have T:wr.heap[w.heap.size]?=some (.cells #[.nilIface] 34):=by rw[(A5.out _ HB.out).block _ (by omega)];exact C1.out
   have f1:=ea T 0;have F0:=jc 0 T;have D8:=jI T;have A6:Hid (∀x,az w (wr.setCell ⟨w.heap.size,0,none⟩ x)):=λx=>(C7.trans ((A5.out _ HB.out).mono (by omega))).setCell (p:=⟨w.heap.size,0,none⟩) (aD _) _;have J:Hid (∀x,(wr.setCell ⟨w.heap.size,0,none⟩ x).cell? ⟨w.heap.size,0,none⟩=some x):=λx=>jc 0 (aH _ _ _ _ _ _ D8.out);clear D5 B7 C5 hz T;rcases zV iC l with⟨j,F,Z,e2,e3,e4⟩|⟨Z,e2⟩
   ·rw[Z]at A;have B2:(Instr.lookup 92 (.map (some M)) (.string ⟨#[109,97,105,110]⟩) true).run Tryz.prog wr= .ok (.tuple #[.int .i64 (j:Int),.bool true]) wr:=by simpa using A
    clear A;obtain⟨cs1,s,C⟩:=z.row;obtain⟨vp,vb,nb,C3,r1,r2,r3,a0,a1,a2,a3⟩:=C j F e2;obtain⟨qp,cp,rfl⟩:=eh r1.1;have d:fy (Lo W0.heap.size) wr 86 4 (.slice q i c) i cs1:=by rw[Q.out]at s⊢;exact s
    have F4:j<i:=by rw[Q.out];exact e3
    obtain⟨g,V,e,-,-⟩:=d.1.form (by omega);injection e with x1 x2 x3;subst x1;clear x2 x3;have q2:wr.cell? ⟨g,j*4+2,none⟩=some (.slice qp F.ps.length cp):=by
     have:=d.1.cells (g:=g) rfl (j*4+2) _ a2;rw[gv]at this;exact this
    cases D:F.ps with
    |nil=>
     have N:Hid (chk l= .ok true):=by show _=_;rw[A8.out,e4,D]
     rw[D]at q2;clear z Z e2 e3 e4 s C r1 r2 r3 a0 a1 a2 a3 d D;go_wp2;refine bP (f:=38) (args:=#[.pointer (some ⟨w.heap.size,0,none⟩)]) (by simp) (by simp[go_sem]) ?_
     refine(pk ⟨w.heap.size,0,none⟩ _).mono ?_;rintro e u' w4 ⟨rfl,rfl,rfl⟩;exact⟨_,yg _ _ w.heap.size _ rfl (J.out _),E.out _ _ ⟨.inl ⟨N.out,rfl⟩,A6.out _⟩⟩
    |cons p ps=>
     have N:Hid (chk l= .ok false):=by show _=_;rw[A8.out,e4,D]
     rw[D]at q2;obtain⟨np,A2⟩:=aB ((p::ps).length);have E8:0<np:=by rw[A2];simp
     rw[<-A2]at q2;have E9:(0:Int)<(np:Int):=by omega
     clear z Z e2 e3 e4 s C r1 r2 r3 a0 a1 a2 a3 d D A2;go_wp2;refine bP (f:=38) (args:=#[.pointer (some ⟨w.heap.size,0,none⟩)]) (by simp) (by simp[go_sem]) ?_
     refine(pk ⟨w.heap.size,0,none⟩ _).mono ?_;rintro e u' w4 ⟨rfl,rfl,rfl⟩;exact⟨_,yg _ _ w.heap.size _ rfl (J.out _),E.out _ _ ⟨.inr (.inl ⟨N.out,rfl⟩),A6.out _⟩⟩
   ·rw[Z]at A;have B2:(Instr.lookup 92 (.map (some M)) (.string ⟨#[109,97,105,110]⟩) true).run Tryz.prog wr= .ok (.tuple #[.int .i64 0,.bool false]) wr:=by simpa using A
    have N:Hid (chk l= .ok false):=by show _=_;rw[A8.out,e2]
    clear A z Z e2;go_wp2;refine bP (f:=38) (args:=#[.pointer (some ⟨w.heap.size,0,none⟩)]) (by simp) (by simp[go_sem]) ?_
    refine(pk ⟨w.heap.size,0,none⟩ _).mono ?_;rintro e u' w4 ⟨rfl,rfl,rfl⟩;exact⟨_,yg _ _ w.heap.size _ rfl (J.out _),E.out _ _ ⟨.inr (.inl ⟨N.out,rfl⟩),A6.out _⟩⟩
end Go.Proofs.YtnfhpdbbfejioaaGreatDoor
