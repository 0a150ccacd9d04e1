/- UE UF UG UH UI UJ UK V0 -/
import Derived.Test.YtnfhpdbbfejioaaGreatDoorJ02
set_option linter.unusedVariables false
set_option linter.unusedSimpArgs false
set_option maxRecDepth 100000
set_option maxHeartbeats 16000000
namespace Go.Proofs.YtnfhpdbbfejioaaGreatDoor
open Go Go.RowKit
variable {w W W' w':jW}{q i P b m o c d e f a B n:Nat}{v:jU}{cs:Array Value}{S:Nat->Prop}{t:Tr}{ds:jE}
theorem oF.of_set(h:oF w)(a:14<=q):oF (w.setCell (jB q i) v):=by
 have b:Gr q w (w.setCell (jB q i) v):=⟨rfl,rfl,rfl,by simp,λk hk c=>aG _ _ _ _ (by show k≠q;intro e;exact c (by rw[e]))⟩;exact h.gr b a
structure SW (w:jW) (P T q m:Nat) (cs:Array Value) (o c d:Nat) (l:List eD) (W:jW):Prop where
 i:yQ w P q cs W
 a:At W P T o c d l
 lt:q<m
 le:m<=W.heap.size
 ltT:T<w.heap.size
theorem SW.set{l:List eD}(h:SW w P b q m cs o c d l W)(i:Nat)(v:jU):SW w P b q m (cs.setIfInBounds i v) o c d l (W.setCell (jB q i) v):=by
 have e:=(h.i.set i v).gr;have f:=h.i.ltP;have g:=h.i.ltq;have j:=h.ltT;refine⟨h.i.set i v,⟨?_,h.a.ps.set (by omega) (by omega),h.a.ends,h.a.far,h.a.deep⟩,h.lt,by simp;exact h.le,j⟩;exact h.a.env.of_set (by have:=h.a.far;omega)
theorem SW.go{l g:List eD}(h:SW w P b q m cs o c d l W)(j:Gr P W W')(k:PS W' P b e f g)(n:fL g)(p:g.length<=l.length):SW w P b q m cs e f d g W':=
 ⟨h.i.go j,h.a.go j k n (by have:=h.a.deep;omega),h.lt,aP h.le j.size,h.ltT⟩
theorem SW.kset{l:List eD}(h:SW w P a q m cs o c d l W)(i:Nat)(v:jU):eJ (Fr m) W (W.setCell (jB q i) v):=eJ.set h.lt
theorem SW.kgo{l:List eD}(h:SW w P b q m cs o c d l W)(e:Gr P W W'):eJ (Fr m) W W':=eJ.gr h.a.ps e
theorem wA{c a:Int}{nm:By}{b v d el:Tr}{e f:jO}{g h:jU}{nt:Nat}{ts j:jE}(k:ej S w b (jQ e))(l:ej S w v (jQ f))(m:fy S w 147 7 g nt ts)(n:ey S w d ts)(o:fy S w 147 7 h i j)(p:ey S w el j):ey S w (cc (st c a nm b v d el) ce) [jV c,jV a,str nm,jQ e,jQ f,g,h]:=by
 rw[ey];exact⟨e,f,g,h,nt,i,ts,j,[],rfl,k,l,m,n,o,p,oD S w⟩
theorem wB{cs:jE}(h:w.ownsRow B 147 7 v n cs)(a:m<=B):fy (Fr m) w 147 7 v n cs:=⟨jd h (aQ _),λi b=>aP a (h.lt i b).1⟩
theorem Dz(f:Nat)(g:CW f)(d:Nat)(w:jW)(P j o c:Nat)(l:List eD)(h:At w P j o c d l)(n:3*l.length<=f+1)(hk:(hd l).k≠0):
  aA 149 #[jP P,jV (d:Int)] w (nB w P j (iZ (f+1) 2 d l)):=by
 obtain⟨y,r,s⟩:=fU (hd l).t;have u:Hid (∀W,az w W->aA 59 #[jP P] W λe w'=>e=jR (.agg #[jV ((hd l).k:Int),jT y,jV ((hd l).p:Int)])/\az w w'/\Gr P W w'):=λW x=>by
  have A:=h.below x;have:=iI W P j o c (hd l) l.tail A.psc y r;exact this.mono λe w' ⟨a,b⟩=>⟨a,x.trans (b.mono x.size),em b⟩
 obtain⟨B,C,D⟩:=j3 h n g;have E:(((hd l).k:Int)==0)=false:=by simp;omega
 have F:Hid (iZ (f+1) 2 d l=(
  if(hd l).t=[118,97,114] then eT (im l.tail) λnm H=>eT (eC [61] H) λ_ I=>eT (iA I) λv J=>eT (eC [59] J) λ_ K=> .ok (st 1 (hd l).p nm .nil v ce ce,K)
  else if(hd l).t=[114,101,116,117,114,110] then eT (iA l.tail) λv J=>eT (eC [59] J) λ_ K=> .ok (st 6 (hd l).p [] .nil v ce ce,K)
  else if(hd l).t=[112,114,105,110,116] then eT (iA l.tail) λv J=>eT (eC [59] J) λ_ K=> .ok (st 7 (hd l).p [] .nil v ce ce,K)
  else if(hd l).t=[105,102] then eT (kN l.tail) λv H=>eT (iZ f 0 d H) λL I=>
   if(hd I).t=[101,108,115,101] then eT (iZ f 0 d I.tail) λel J=> .ok (st 4 (hd l).p [] .nil v L el,J) else .ok (st 4 (hd l).p [] .nil v L ce,I)
  else if(hd l).t=[119,104,105,108,101] then eT (kN l.tail) λv H=>eT (iZ f 0 d H) λL I=> .ok (st 5 (hd l).p [] .nil v L ce,I)
  else .error (3,(hd l).p))):=by
  show _=_;rw[iZ,if_neg hk]
 have M:Hid (∀e w',nB w P j (iZ (f+1) 2 d l) e w'->nB w P j (iZ (f+1) 2 d l) e w'):=λ_ _ h=>h;generalize N:nB w P j (iZ (f+1) 2 d l)=G at*;clear M;have M:Hid (∀e w',nB w P j (iZ (f+1) 2 d l) e w'->G e w'):=λe w' h=>by rw[<-N];exact h
 have O:=GH;have h2:=GI;clear h hk r s N n g;go_enter Tryz.func149,Tryz.ntmps149
 go_wp2_with(go_at_call 59;fail)
 refine(u _ ((aJ _ _).alloc (aD _) _)).mono ?_;rintro e w1 ⟨rfl,x,Q⟩;have S:Hid (w1.heap[w.heap.size]?=some (jC #[jV 0,jV 0,jT ⟨#[]⟩,jQ none,jQ none,jS,jS] 147)):=Q.blk (heap_alloc_last w _) (by have:=B.ltP;omega);have T:=jI x;have U:=jI Q;clear x Q
 go_wp2_with(go_at_call 59;fail)
 obtain⟨V,Y⟩:=aB (w1.alloc (jC #[jV 0,jV ((hd l).p:Int),jT ⟨#[]⟩,jQ none,jQ none,jS,jS] 147));obtain⟨q,Z⟩:=aB w1.heap.size;have A:w.heap.size<w1.heap.size:=(aC.1 S).1;have E:Hid (yQ w P q #[jV 0,jV ((hd l).p:Int),jT ⟨#[]⟩,jQ none,jQ none,jS,jS] V):=by
  refine⟨?_,?_,?_,by omega,B.ltP⟩
  ·rw[Y,ed A];exact S
  ·rw[Y,Z];exact heap_alloc_last w1 _
  ·rw[Y];exact(em T).alloc _
 have K:Hid (Gr P (w.alloc (jC #[jV 0,jV 0,jT ⟨#[]⟩,jQ none,jQ none,jS,jS] 147)) V):=by
  show Gr _ _ _;rw[Y];exact U.alloc _
 have H:Hid (az w V):=by
  show Below _ _ _;rw[Y];exact T.alloc T.size _
 rw[<-Y,<-Z];clear Y Z A T S U;refine(u _ H).mono ?_;rintro e I ⟨rfl,x,Q⟩;obtain⟨J,L,g⟩:=j3 (E.go Q) (B.below x) (K.trans Q);clear x Q E H K g
 go_wp2_with(go_at_call 94;fail)
 have n:=J.lt;obtain⟨m,r⟩:=aB I.heap.size;have s:Hid (SW w P j q m #[jV 0,jV ((hd l).p:Int),jT ⟨#[]⟩,jQ none,jQ none,jS,jS] o c d l I):=⟨J,L,by omega,by omega,B.ltT⟩;clear r n J L;refine(iO s.a ⟨#[118,97,114]⟩ (by decide)).mono ?_;rintro e x0 (⟨N,rfl,O,Q,u,S⟩|⟨N,rfl,x⟩)
 ·obtain⟨T,U,V⟩:=j3 N (s.go Q O u (aL S)) S;clear N O Q u S s;have Y:=ea U.i.blk 0;have Z:=jc 0 U.i.blk
  go_wp2_with(go_at_call 93;fail)
  obtain⟨A,E⟩:=aB (x0.setCell (jA q) (jV 1));have K:Hid (SW w P j q m #[jV 1,jV ((hd l).p:Int),jT ⟨#[]⟩,jQ none,jQ none,jS,jS] (o+3) (c-1) d (l.tail) A):=by
   show SW _ _ _ _ _ _ _ _ _ _ _;rw[E];exact U.set 0 _
  rw[<-E];clear E U Y Z;obtain⟨z,H,g⟩:=fU (hd l.tail).t;have J:=jI H;clear H g;refine(yN K.a).mono ?_;rintro e L (⟨N,rfl,O,Q,u,S⟩|⟨k,N,⟨b,rfl,x⟩,Q⟩)
  rotate_left
  ·refine⟨rfl,M _ _ (.inr ⟨k,_,?_,⟨b,rfl,x⟩,K.i.gr.trans Q⟩)⟩;rw[F.out,if_pos T.out];rw[N]
   all_goals rfl
  obtain⟨n,r,U⟩:=j3 N (K.go Q O u (aL S)) S;rw[J.out];clear N O Q u S K;have A:=ea r.i.blk 2;have E:=jc 2 r.i.blk
  go_wp2_with(go_at_call 92;fail)
  obtain⟨H,g⟩:=aB (L.setCell (jB q 2) (jT z));have K:Hid (SW w P j q m #[jV 1,jV ((hd l).p:Int),jT z,jQ none,jQ none,jS,jS] ((o+3)+3) ((c-1)-1) d (l.tail.tail) H):=by
   show SW _ _ _ _ _ _ _ _ _ _ _;rw[g];exact r.set 2 _
  rw[<-g];clear g r A E;refine(jY K.a ⟨#[61]⟩ (by decide)).mono ?_;rintro e U (⟨N,rfl,O,Q,u,S⟩|⟨N,⟨b,rfl,x⟩,Q⟩)
  rotate_left
  ·refine⟨rfl,M _ _ (.inr ⟨_,_,?_,⟨b,rfl,x⟩,K.i.gr.trans Q⟩)⟩;have L:=N;rw[F.out,if_pos T.out];rw[n.out];show eT (eC [61] l.tail.tail) _=_;rw[L]
   all_goals rfl
  obtain⟨r,A,E⟩:=j3 N (K.go Q O u (aL S)) S;clear N O Q u S K
  go_wp2_with(go_at_call 206;fail)
  refine(qC A.a).mono ?_;intro e H g;rcases g.parts with⟨U,K,E,E,A0,A1,rfl,A2,O,Q⟩|⟨k,p,A1,⟨b,rfl,x⟩,Q⟩
  rotate_left
  ·refine⟨rfl,M _ _ (.inr ⟨k,p,?_,⟨b,rfl,x⟩,A.i.gr.trans Q⟩)⟩;rw[F.out,if_pos T.out];rw[n.out];show eT (eC [61] l.tail.tail) _=_;rw[r.out];show eT (iA ((l.tail.tail).tail)) _=_;rw[A1]
   all_goals rfl
  obtain⟨A3,rfl⟩:=om A1 A2;obtain⟨u,S⟩:=jr A1 A.a.ends;obtain⟨A4,A5,A6,A7⟩:=j4 A1 (A2.old A.le) (A.go Q O u (aL S)) S;clear g A1 A2 O Q u S A;have A:=ea A6.i.blk 4;have A8:=jc 4 A6.i.blk
  go_wp2_with(go_at_call 92;fail)
  obtain⟨A9,B0⟩:=aB (H.setCell (jB q 4) (jP A3));have H:Hid (SW w P j q m #[jV 1,jV ((hd l).p:Int),jT z,jQ none,jP A3,jS,jS] (E) (A0) d (K) A9):=by
   show SW _ _ _ _ _ _ _ _ _ _ _;rw[B0];exact A6.set 4 _
  have E:Hid (ej (Fr m) A9 U (jP A3)):=by
   show ej _ _ _ _;rw[B0];exact(A6.kset 4 _).ex A5
  rw[<-B0];clear B0 A6 A A8 A5;refine(jY H.a ⟨#[59]⟩ (by decide)).mono ?_;rintro e B1 (⟨N,rfl,O,Q,u,S⟩|⟨N,⟨b,rfl,x⟩,Q⟩)
  rotate_left
  ·refine⟨rfl,M _ _ (.inr ⟨_,_,?_,⟨b,rfl,x⟩,H.i.gr.trans Q⟩)⟩;have L:=N;rw[F.out,if_pos T.out];rw[n.out];show eT (eC [61] l.tail.tail) _=_;rw[r.out];show eT (iA ((l.tail.tail).tail)) _=_;rw[A4.out];show eT (eC [59] (K)) _=_;rw[L]
   all_goals rfl
  obtain⟨B2,B3,B4,B5⟩:=j4 N (H.go Q O u (aL S)) ((H.kgo Q).ex E) S;clear N O Q u S H E;obtain⟨H,E,B6,B7,B8,B9,C0⟩:=B3.i.cells;obtain⟨C1,C2,C3,C4,C5,C6,C7,C8⟩:=B3.i.rcells;have C9:¬w.heap.size=q:=by have:=B3.i.ltq;omega
  have D0:¬q=w.heap.size:=by have:=B3.i.ltq;omega
  go_wp2
  try simp only[Exit.inBlock,Exit.then]
  have D1:ey (Fr m) B1 (cc (st 1 ((hd l).p:Int) (hd l.tail).t .nil U ce ce) ce) (#[jV 1,jV ((hd l).p:Int),jT z,jQ none,jP A3,jS,jS]).toList:=by
    show ey _ _ _ [jV 1,jV ((hd l).p:Int),jT z,jQ none,jP A3,jS,jS];rw[<-J.out];exact mF (gV _ _) B4
  obtain⟨J,U,D2,D3⟩:=py B3.i (aO B3.i.ltq (aL B3.lt)) D1 B3.a.ps B.ltT;refine bodyPost_ret (ub Tryz.results149 _ _ w.heap.size _ _ _ _ _ _ _ rfl J) rfl (M _ _ (.inl ⟨_,_,_,_,_,?_,rfl,U,D2,D3⟩));rw[F.out,if_pos T.out];rw[n.out];show eT (eC [61] l.tail.tail) _=_;rw[r.out];show eT (iA ((l.tail.tail).tail)) _=_;rw[A4.out];show eT (eC [59] (K)) _=_;rw[B2.out]
  all_goals rfl
 have n:=jI N;have Q:Gr P I x0:=em x;have O:=s.a.ps.below x;have u:=s.a.ends;have r:=jI (s.go Q O u (aD _));clear N x O Q u s
 go_wp2_with(go_at_call 94;fail)
 refine(iO r.a ⟨#[114,101,116,117,114,110]⟩ (by decide)).mono ?_;rintro e x1 (⟨N,rfl,O,Q,u,S⟩|⟨N,rfl,x⟩)
 ·obtain⟨T,K,V⟩:=j3 N (r.go Q O u (aL S)) S;clear N O Q u S r;have Y:=ea K.i.blk 0;have Z:=jc 0 K.i.blk
  go_wp2_with(go_at_call 206;fail)
  obtain⟨I,s⟩:=aB (x1.setCell (jA q) (jV 6));have D4:Hid (SW w P j q m #[jV 6,jV ((hd l).p:Int),jT ⟨#[]⟩,jQ none,jQ none,jS,jS] (o+3) (c-1) d (l.tail) I):=by
   show SW _ _ _ _ _ _ _ _ _ _ _;rw[s];exact K.set 0 _
  rw[<-s];clear s K Y Z;refine(qC D4.a).mono ?_;intro e K g;rcases g.parts with⟨I,s,D5,D6,D7,A1,rfl,A2,O,Q⟩|⟨k,p,A1,⟨b,rfl,x⟩,Q⟩
  rotate_left
  ·refine⟨rfl,M _ _ (.inr ⟨k,p,?_,⟨b,rfl,x⟩,D4.i.gr.trans Q⟩)⟩;rw[F.out,if_neg n.out,if_pos T.out];show eT (iA (l.tail)) _=_;rw[A1]
   all_goals rfl
  obtain⟨D8,rfl⟩:=om A1 A2;obtain⟨u,S⟩:=jr A1 D4.a.ends;obtain⟨D9,E0,E1,E2⟩:=j4 A1 (A2.old D4.le) (D4.go Q O u (aL S)) S;clear g A1 A2 O Q u S D4;have A:=ea E1.i.blk 4;have A8:=jc 4 E1.i.blk
  go_wp2_with(go_at_call 92;fail)
  obtain⟨E3,E4⟩:=aB (K.setCell (jB q 4) (jP D8));have K:Hid (SW w P j q m #[jV 6,jV ((hd l).p:Int),jT ⟨#[]⟩,jQ none,jP D8,jS,jS] (D6) (D7) d (s) E3):=by
   show SW _ _ _ _ _ _ _ _ _ _ _;rw[E4];exact E1.set 4 _
  have E5:Hid (ej (Fr m) E3 I (jP D8)):=by
   show ej _ _ _ _;rw[E4];exact(E1.kset 4 _).ex E0
  rw[<-E4];clear E4 E1 A A8 E0;refine(jY K.a ⟨#[59]⟩ (by decide)).mono ?_;rintro e E6 (⟨N,rfl,O,Q,u,S⟩|⟨N,⟨b,rfl,x⟩,Q⟩)
  rotate_left
  ·refine⟨rfl,M _ _ (.inr ⟨_,_,?_,⟨b,rfl,x⟩,K.i.gr.trans Q⟩)⟩;have L:=N;rw[F.out,if_neg n.out,if_pos T.out];show eT (iA (l.tail)) _=_;rw[D9.out];show eT (eC [59] (s)) _=_;rw[L]
   all_goals rfl
  obtain⟨E7,E8,E9,F0⟩:=j4 N (K.go Q O u (aL S)) ((K.kgo Q).ex E5) S;clear N O Q u S K E5;obtain⟨H,E,B6,B7,B8,B9,C0⟩:=E8.i.cells;obtain⟨C1,C2,C3,C4,C5,C6,C7,C8⟩:=E8.i.rcells;have C9:¬w.heap.size=q:=by have:=E8.i.ltq;omega
  have D0:¬q=w.heap.size:=by have:=E8.i.ltq;omega
  go_wp2
  try simp only[Exit.inBlock,Exit.then]
  have D1:ey (Fr m) E6 (cc (st 6 ((hd l).p:Int) [] .nil I ce ce) ce) (#[jV 6,jV ((hd l).p:Int),jT ⟨#[]⟩,jQ none,jP D8,jS,jS]).toList:=mF (nm:=[]) (gV _ _) E9;obtain⟨J,U,D2,D3⟩:=py E8.i (aO E8.i.ltq (aL E8.lt)) D1 E8.a.ps B.ltT;refine bodyPost_ret (ub Tryz.results149 _ _ w.heap.size _ _ _ _ _ _ _ rfl J) rfl (M _ _ (.inl ⟨_,_,_,_,_,?_,rfl,U,D2,D3⟩));rw[F.out,if_neg n.out,if_pos T.out];show eT (iA (l.tail)) _=_;rw[D9.out];show eT (eC [59] (s)) _=_;rw[E7.out]
  all_goals rfl
 have I:=jI N;have Q:Gr P x0 x1:=em x;have O:=r.a.ps.below x;have u:=r.a.ends;have s:=jI (r.go Q O u (aD _));clear N x O Q u r
 go_wp2_with(go_at_call 94;fail)
 refine(iO s.a ⟨#[112,114,105,110,116]⟩ (by decide)).mono ?_;rintro e x2 (⟨N,rfl,O,Q,u,S⟩|⟨N,rfl,x⟩)
 ·obtain⟨T,K,V⟩:=j3 N (s.go Q O u (aL S)) S;clear N O Q u S s;have Y:=ea K.i.blk 0;have Z:=jc 0 K.i.blk
  go_wp2_with(go_at_call 206;fail)
  obtain⟨r,F1⟩:=aB (x2.setCell (jA q) (jV 7));have F2:Hid (SW w P j q m #[jV 7,jV ((hd l).p:Int),jT ⟨#[]⟩,jQ none,jQ none,jS,jS] (o+3) (c-1) d (l.tail) r):=by
   show SW _ _ _ _ _ _ _ _ _ _ _;rw[F1];exact K.set 0 _
  rw[<-F1];clear F1 K Y Z;refine(qC F2.a).mono ?_;intro e K g;rcases g.parts with⟨r,F3,F4,F5,F6,A1,rfl,A2,O,Q⟩|⟨k,p,A1,⟨b,rfl,x⟩,Q⟩
  rotate_left
  ·refine⟨rfl,M _ _ (.inr ⟨k,p,?_,⟨b,rfl,x⟩,F2.i.gr.trans Q⟩)⟩;rw[F.out,if_neg n.out,if_neg I.out,if_pos T.out];show eT (iA (l.tail)) _=_;rw[A1]
   all_goals rfl
  obtain⟨F7,rfl⟩:=om A1 A2;obtain⟨u,S⟩:=jr A1 F2.a.ends;obtain⟨F8,F9,G0,G1⟩:=j4 A1 (A2.old F2.le) (F2.go Q O u (aL S)) S;clear g A1 A2 O Q u S F2;have A:=ea G0.i.blk 4;have A8:=jc 4 G0.i.blk
  go_wp2_with(go_at_call 92;fail)
  obtain⟨G2,G3⟩:=aB (K.setCell (jB q 4) (jP F7));have K:Hid (SW w P j q m #[jV 7,jV ((hd l).p:Int),jT ⟨#[]⟩,jQ none,jP F7,jS,jS] (F5) (F6) d (F3) G2):=by
   show SW _ _ _ _ _ _ _ _ _ _ _;rw[G3];exact G0.set 4 _
  have G4:Hid (ej (Fr m) G2 r (jP F7)):=by
   show ej _ _ _ _;rw[G3];exact(G0.kset 4 _).ex F9
  rw[<-G3];clear G3 G0 A A8 F9;refine(jY K.a ⟨#[59]⟩ (by decide)).mono ?_;rintro e G5 (⟨N,rfl,O,Q,u,S⟩|⟨N,⟨b,rfl,x⟩,Q⟩)
  rotate_left
  ·refine⟨rfl,M _ _ (.inr ⟨_,_,?_,⟨b,rfl,x⟩,K.i.gr.trans Q⟩)⟩;have L:=N;rw[F.out,if_neg n.out,if_neg I.out,if_pos T.out];show eT (iA (l.tail)) _=_;rw[F8.out];show eT (eC [59] (F3)) _=_;rw[L]
   all_goals rfl
  obtain⟨L,G6,G7,G8⟩:=j4 N (K.go Q O u (aL S)) ((K.kgo Q).ex G4) S;clear N O Q u S K G4;obtain⟨H,E,B6,B7,B8,B9,C0⟩:=G6.i.cells;obtain⟨C1,C2,C3,C4,C5,C6,C7,C8⟩:=G6.i.rcells;have C9:¬w.heap.size=q:=by have:=G6.i.ltq;omega
  have D0:¬q=w.heap.size:=by have:=G6.i.ltq;omega
  go_wp2
  try simp only[Exit.inBlock,Exit.then]
  have D1:ey (Fr m) G5 (cc (st 7 ((hd l).p:Int) [] .nil r ce ce) ce) (#[jV 7,jV ((hd l).p:Int),jT ⟨#[]⟩,jQ none,jP F7,jS,jS]).toList:=mF (nm:=[]) (gV _ _) G7;obtain⟨J,U,D2,D3⟩:=py G6.i (aO G6.i.ltq (aL G6.lt)) D1 G6.a.ps B.ltT;refine bodyPost_ret (ub Tryz.results149 _ _ w.heap.size _ _ _ _ _ _ _ rfl J) rfl (M _ _ (.inl ⟨_,_,_,_,_,?_,rfl,U,D2,D3⟩));rw[F.out,if_neg n.out,if_neg I.out,if_pos T.out];show eT (iA (l.tail)) _=_;rw[F8.out];show eT (eC [59] (F3)) _=_;rw[L.out]
  all_goals rfl
 have r:=jI N;have Q:Gr P x1 x2:=em x;have O:=s.a.ps.below x;have u:=s.a.ends;have K:=jI (s.go Q O u (aD _));clear N x O Q u s
 go_wp2_with(go_at_call 94;fail)
 refine(iO K.a ⟨#[105,102]⟩ (by decide)).mono ?_;rintro e x3 (⟨N,rfl,O,Q,u,S⟩|⟨N,rfl,x⟩)
 ·obtain⟨T,L,V⟩:=j3 N (K.go Q O u (aL S)) S;clear N O Q u S K;have Y:=ea L.i.blk 0;have Z:=jc 0 L.i.blk
  go_wp2_with(go_at_call 207;fail)
  obtain⟨s,G9⟩:=aB (x3.setCell (jA q) (jV 4));have H0:Hid (SW w P j q m #[jV 4,jV ((hd l).p:Int),jT ⟨#[]⟩,jQ none,jQ none,jS,jS] (o+3) (c-1) d (l.tail) s):=by
   show SW _ _ _ _ _ _ _ _ _ _ _;rw[G9];exact L.set 0 _
  rw[<-G9];clear G9 L Y Z;refine(Cq H0.a).mono ?_;intro e L g;rcases g.parts with⟨s,H1,H2,H3,H4,A1,rfl,A2,O,Q⟩|⟨k,p,A1,⟨b,rfl,x⟩,Q⟩
  rotate_left
  ·refine⟨rfl,M _ _ (.inr ⟨k,p,?_,⟨b,rfl,x⟩,H0.i.gr.trans Q⟩)⟩;rw[F.out,if_neg n.out,if_neg I.out,if_neg r.out,if_pos T.out];show eT (kN (l.tail)) _=_;rw[A1]
   all_goals rfl
  obtain⟨H5,rfl⟩:=yU A1 A2;obtain⟨u,S⟩:=oA A1 H0.a.ends;obtain⟨H6,H7,H8,H9⟩:=j4 A1 (A2.old H0.le) (H0.go Q O u (aL S)) S;clear g A1 A2 O Q u S H0;have A:=ea H8.i.blk 4;have A8:=jc 4 H8.i.blk
  go_wp2_with(go_at_call 97;fail)
  obtain⟨I0,I1⟩:=aB (L.setCell (jB q 4) (jP H5));have L:Hid (SW w P j q m #[jV 4,jV ((hd l).p:Int),jT ⟨#[]⟩,jQ none,jP H5,jS,jS] (H3) (H4) d (H1) I0):=by
   show SW _ _ _ _ _ _ _ _ _ _ _;rw[I1];exact H8.set 4 _
  have I2:Hid (ej (Fr m) I0 s (jP H5)):=by
   show ej _ _ _ _;rw[I1];exact(H8.kset 4 _).ex H7
  rw[<-I1];clear I1 H8 A A8 H7;refine(D d I0 P j _ _ (H1) L.a (by have:=C.out;have:=V.out;have:=H9.out;omega)).mono ?_;rintro e I3 (⟨I4,I5,v,I6,I7,I8,I9,A1,rfl,J0,A2,O,Q⟩|⟨k,p,A1,⟨b,rfl,x⟩,Q⟩)
  rotate_left
  ·refine⟨rfl,M _ _ (.inr ⟨k,p,?_,⟨b,rfl,x⟩,L.i.gr.trans Q⟩)⟩;rw[F.out,if_neg n.out,if_neg I.out,if_neg r.out,if_pos T.out];show eT (kN (l.tail)) _=_;rw[H6.out];show eT (iZ f 0 d (H1)) _=_;rw[A1]
   all_goals rfl
  obtain⟨J1,J2,rfl⟩:=eh J0;obtain⟨u,S⟩:=jg f 0 d _ _ _ L.a.ends A1;obtain⟨J3,J4,J5,J6,J7,J8⟩:=j6 A1 (wB J0 L.le) (A2.old L.le) (L.go Q O u (aL S)) ((L.kgo Q).ex I2) S;clear A1 J0 A2 O Q u S L I2;have L:=ea J6.i.blk 5;have J9:=jc 5 J6.i.blk
  go_wp2_with(go_at_call 94;fail)
  obtain⟨K0,K1⟩:=aB (I3.setCell (jB q 5) ((jL J1 I6 J2)));have K2:Hid (SW w P j q m #[jV 4,jV ((hd l).p:Int),jT ⟨#[]⟩,jQ none,jP H5,(jL J1 I6 J2),jS] (I8) (I9) d (I5) K0):=by
   show SW _ _ _ _ _ _ _ _ _ _ _;rw[K1];exact J6.set 5 _
  have K3:Hid (ej (Fr m) K0 s (jP H5)):=by
   show ej _ _ _ _;rw[K1];exact(J6.kset 5 _).ex J7
  have K4:Hid (fy (Fr m) K0 147 7 (jL J1 I6 J2) I6 I7):=by
   show fy _ _ _ _ _ _ _;rw[K1];exact J4.kept (J6.kset 5 _) (by decide)
  have K5:Hid (ey (Fr m) K0 I4 I7):=by
   show ey _ _ _ _;rw[K1];exact ey.kept (J6.kset 5 _) _ _ J5
  rw[<-K1];clear K1 J6 L J9 J7 J4 J5;refine(iO K2.a ⟨#[101,108,115,101]⟩ (by decide)).mono ?_;rintro e z2 (⟨N,rfl,O,Q,u,S⟩|⟨N,rfl,x⟩)
  ·obtain⟨L,K6,K7,K8,K9,L0⟩:=j6 N (K2.go Q O u (aL S)) ((K2.kgo Q).ex K3) (K4.kept (K2.kgo Q) (by decide)) (ey.kept (K2.kgo Q) _ _ K5) S;clear N O Q u S K2 K3 K4 K5
   go_wp2_with(go_at_call 97;fail)
   refine(D d z2 P j _ _ ((I5).tail) K6.a (by have:=C.out;have:=V.out;have:=H9.out;have:=J8.out;have:=L0.out;omega)).mono ?_;rintro e L1 (⟨L2,L3,v,L4,L5,L6,L7,A1,rfl,J0,A2,O,Q⟩|⟨k,p,A1,⟨b,rfl,x⟩,Q⟩)
   rotate_left
   ·refine⟨rfl,M _ _ (.inr ⟨k,p,?_,⟨b,rfl,x⟩,K6.i.gr.trans Q⟩)⟩;rw[F.out,if_neg n.out,if_neg I.out,if_neg r.out,if_pos T.out];show eT (kN (l.tail)) _=_;rw[H6.out];show eT (iZ f 0 d (H1)) _=_;rw[J3.out];show(if(hd (I5)).t=[101,108,115,101] then _ else _)=_;rw[if_pos L.out];show eT (iZ f 0 d ((I5).tail)) _=_;rw[A1]
    all_goals rfl
   obtain⟨L8,L9,rfl⟩:=eh J0;obtain⟨u,S⟩:=jg f 0 d _ _ _ K6.a.ends A1;obtain⟨M0,M1,M2,M3,M4,M5,M6,M7⟩:=j8 A1 (wB J0 K6.le) (A2.old K6.le) (K6.go Q O u (aL S)) ((K6.kgo Q).ex K7) (K8.kept (K6.kgo Q) (by decide)) (ey.kept (K6.kgo Q) _ _ K9) S;clear A1 J0 A2 O Q u S K6 K7 K8 K9;obtain⟨H,E,B6,B7,B8,B9,C0⟩:=M3.i.cells;obtain⟨C1,C2,C3,C4,C5,C6,C7,C8⟩:=M3.i.rcells;have C9:¬w.heap.size=q:=by have:=M3.i.ltq;omega
   have D0:¬q=w.heap.size:=by have:=M3.i.ltq;omega
   have M8:=ea M3.i.blk 6;go_wp2
   try simp only[Exit.inBlock,Exit.then]
   have M9:SW w P j q m #[jV 4,jV ((hd l).p:Int),jT ⟨#[]⟩,jQ none,jP H5,(jL J1 I6 J2),(jL L8 L4 L9)] (L6) (L7) d (L3) (L1.setCell (jB q 6) ((jL L8 L4 L9))):=M3.set 6 _;have N0:=M3.kset 6 ((jL L8 L4 L9));have D1:ey (Fr m) (L1.setCell (jB q 6) ((jL L8 L4 L9))) (cc (st 4 ((hd l).p:Int) [] .nil s I4 L2) ce) (#[jV 4,jV ((hd l).p:Int),jT ⟨#[]⟩,jQ none,jP H5,(jL J1 I6 J2),(jL L8 L4 L9)]).toList:=wA (nm:=[]) (gV _ _) (N0.ex M4) (M5.kept N0 (by decide)) (ey.kept N0 _ _ M6) (M1.kept N0 (by decide)) (ey.kept N0 _ _ M2);obtain⟨J,U,D2,D3⟩:=py M9.i (aO M9.i.ltq (aL M9.lt)) D1 M9.a.ps B.ltT;refine bodyPost_ret (ub Tryz.results149 _ _ w.heap.size _ _ _ _ _ _ _ rfl J) rfl (M _ _ (.inl ⟨_,_,_,_,_,?_,rfl,U,D2,D3⟩));rw[F.out,if_neg n.out,if_neg I.out,if_neg r.out,if_pos T.out];show eT (kN (l.tail)) _=_;rw[H6.out];show eT (iZ f 0 d (H1)) _=_;rw[J3.out];show(if(hd (I5)).t=[101,108,115,101] then _ else _)=_;rw[if_pos L.out];show eT (iZ f 0 d ((I5).tail)) _=_;rw[M0.out]
   all_goals rfl
  ·have L:=jI N;have Q:Gr P K0 z2:=em x;have O:=K2.a.ps.below x;have u:=K2.a.ends;obtain⟨N1,N2,N3,N4⟩:=j4 (K2.go Q O u (aD _)) ((K2.kgo Q).ex K3) (K4.kept (K2.kgo Q) (by decide)) (ey.kept (K2.kgo Q) _ _ K5);clear N x O Q u K2 K3 K4 K5;obtain⟨H,E,B6,B7,B8,B9,C0⟩:=N1.i.cells;obtain⟨C1,C2,C3,C4,C5,C6,C7,C8⟩:=N1.i.rcells;have C9:¬w.heap.size=q:=by have:=N1.i.ltq;omega
   have D0:¬q=w.heap.size:=by have:=N1.i.ltq;omega
   go_wp2
   try simp only[Exit.inBlock,Exit.then]
   have D1:ey (Fr m) z2 (cc (st 4 ((hd l).p:Int) [] .nil s I4 ce) ce) (#[jV 4,jV ((hd l).p:Int),jT ⟨#[]⟩,jQ none,jP H5,(jL J1 I6 J2),jS]).toList:=wA (nm:=[]) (gV _ _) N2 N3 N4 (fy.none _ _ _ _) (oD _ _);obtain⟨J,U,D2,D3⟩:=py N1.i (aO N1.i.ltq (aL N1.lt)) D1 N1.a.ps B.ltT;refine bodyPost_ret (ub Tryz.results149 _ _ w.heap.size _ _ _ _ _ _ _ rfl J) rfl (M _ _ (.inl ⟨_,_,_,_,_,?_,rfl,U,D2,D3⟩));rw[F.out,if_neg n.out,if_neg I.out,if_neg r.out,if_pos T.out];show eT (kN (l.tail)) _=_;rw[H6.out];show eT (iZ f 0 d (H1)) _=_;rw[J3.out];show(if(hd (I5)).t=[101,108,115,101] then _ else _)=_;rw[if_neg L.out]
   all_goals rfl
 have s:=jI N;have Q:Gr P x2 x3:=em x;have O:=K.a.ps.below x;have u:=K.a.ends;have L:=jI (K.go Q O u (aD _));clear N x O Q u K
 go_wp2_with(go_at_call 94;fail)
 refine(iO L.a ⟨#[119,104,105,108,101]⟩ (by decide)).mono ?_;rintro e x4 (⟨N,rfl,O,Q,u,S⟩|⟨N,rfl,x⟩)
 ·obtain⟨T,K,V⟩:=j3 N (L.go Q O u (aL S)) S;clear N O Q u S L;have Y:=ea K.i.blk 0;have Z:=jc 0 K.i.blk
  go_wp2_with(go_at_call 207;fail)
  obtain⟨N5,N6⟩:=aB (x4.setCell (jA q) (jV 5));have N7:Hid (SW w P j q m #[jV 5,jV ((hd l).p:Int),jT ⟨#[]⟩,jQ none,jQ none,jS,jS] (o+3) (c-1) d (l.tail) N5):=by
   show SW _ _ _ _ _ _ _ _ _ _ _;rw[N6];exact K.set 0 _
  rw[<-N6];clear N6 K Y Z;refine(Cq N7.a).mono ?_;intro e Y g;rcases g.parts with⟨Z,K,N8,O0,O1,A1,rfl,A2,O,Q⟩|⟨k,p,A1,⟨b,rfl,x⟩,Q⟩
  rotate_left
  ·refine⟨rfl,M _ _ (.inr ⟨k,p,?_,⟨b,rfl,x⟩,N7.i.gr.trans Q⟩)⟩;rw[F.out,if_neg n.out,if_neg I.out,if_neg r.out,if_neg s.out,if_pos T.out];show eT (kN (l.tail)) _=_;rw[A1]
   all_goals rfl
  obtain⟨O2,rfl⟩:=yU A1 A2;obtain⟨u,S⟩:=oA A1 N7.a.ends;obtain⟨O3,O4,O5,O6⟩:=j4 A1 (A2.old N7.le) (N7.go Q O u (aL S)) S;clear g A1 A2 O Q u S N7;have A:=ea O5.i.blk 4;have A8:=jc 4 O5.i.blk
  go_wp2_with(go_at_call 97;fail)
  obtain⟨g,O7⟩:=aB (Y.setCell (jB q 4) (jP O2));have Y:Hid (SW w P j q m #[jV 5,jV ((hd l).p:Int),jT ⟨#[]⟩,jQ none,jP O2,jS,jS] (O0) (O1) d (K) g):=by
   show SW _ _ _ _ _ _ _ _ _ _ _;rw[O7];exact O5.set 4 _
  have O8:Hid (ej (Fr m) g Z (jP O2)):=by
   show ej _ _ _ _;rw[O7];exact(O5.kset 4 _).ex O4
  rw[<-O7];clear O7 O5 A A8 O4;refine(D d g P j _ _ (K) Y.a (by have:=C.out;have:=V.out;have:=O6.out;omega)).mono ?_;rintro e C (⟨D,V,v,A,g,g,O9,A1,rfl,J0,A2,O,Q⟩|⟨k,p,A1,⟨b,rfl,x⟩,Q⟩)
  rotate_left
  ·refine⟨rfl,M _ _ (.inr ⟨k,p,?_,⟨b,rfl,x⟩,Y.i.gr.trans Q⟩)⟩;rw[F.out,if_neg n.out,if_neg I.out,if_neg r.out,if_neg s.out,if_pos T.out];show eT (kN (l.tail)) _=_;rw[O3.out];show eT (iZ f 0 d (K)) _=_;rw[A1]
   all_goals rfl
  obtain⟨P0,P1,rfl⟩:=eh J0;obtain⟨u,S⟩:=jg f 0 d _ _ _ Y.a.ends A1;obtain⟨P2,P3,P4,P5,P6,P7⟩:=j6 A1 (wB J0 Y.le) (A2.old Y.le) (Y.go Q O u (aL S)) ((Y.kgo Q).ex O8) S;clear A1 J0 A2 O Q u S Y O8;obtain⟨H,E,B6,B7,B8,B9,C0⟩:=P5.i.cells;obtain⟨C1,C2,C3,C4,C5,C6,C7,C8⟩:=P5.i.rcells;have C9:¬w.heap.size=q:=by have:=P5.i.ltq;omega
  have D0:¬q=w.heap.size:=by have:=P5.i.ltq;omega
  have S:=ea P5.i.blk 5;go_wp2
  try simp only[Exit.inBlock,Exit.then]
  have M9:SW w P j q m #[jV 5,jV ((hd l).p:Int),jT ⟨#[]⟩,jQ none,jP O2,(jL P0 A P1),jS] (g) (O9) d (V) (C.setCell (jB q 5) ((jL P0 A P1))):=P5.set 5 _;have N0:=P5.kset 5 ((jL P0 A P1));have D1:ey (Fr m) (C.setCell (jB q 5) ((jL P0 A P1))) (cc (st 5 ((hd l).p:Int) [] .nil Z D ce) ce) (#[jV 5,jV ((hd l).p:Int),jT ⟨#[]⟩,jQ none,jP O2,(jL P0 A P1),jS]).toList:=wA (nm:=[]) (gV _ _) (N0.ex P6) (P3.kept N0 (by decide)) (ey.kept N0 _ _ P4) (fy.none _ _ _ _) (oD _ _);obtain⟨J,U,D2,D3⟩:=py M9.i (aO M9.i.ltq (aL M9.lt)) D1 M9.a.ps B.ltT;refine bodyPost_ret (ub Tryz.results149 _ _ w.heap.size _ _ _ _ _ _ _ rfl J) rfl (M _ _ (.inl ⟨_,_,_,_,_,?_,rfl,U,D2,D3⟩));rw[F.out,if_neg n.out,if_neg I.out,if_neg r.out,if_neg s.out,if_pos T.out];show eT (kN (l.tail)) _=_;rw[O3.out];show eT (iZ f 0 d (K)) _=_;rw[P2.out]
  all_goals rfl
 have H:=jI N;have Q:Gr P x3 x4:=em x;have O:=L.a.ps.below x;have u:=L.a.ends;have E:=jI (L.go Q O u (aD _));clear N x O Q u L
 go_wp2_with(go_at_call 60;fail)
 refine(kZ x4 P j o c (hd l) l.tail E.a.psc 3).mono ?_;rintro e Y ⟨⟨a,rfl,B⟩,x⟩;have T:=jI B;have J:=jI (E.i.gr.trans (em x));clear B x;go_wp2;refine⟨rfl,M _ _ (.inr ⟨3,(hd l).p,?_,⟨a,rfl,T⟩,J⟩)⟩
 rw[F.out,if_neg n.out,if_neg I.out,if_neg r.out,if_neg s.out,if_neg H.out]
theorem OB:(Tryz.prog.info? 147).map (λi=>(i.zero,i.size,i.bytes))=some (some (.agg #[jV 0,jV 0,jT ⟨#[]⟩,jQ none,jQ none,jS,jS]),7,96):=by kernel_rfl
theorem xM(d:ey S w (cc t ce) ds):∀(xs:List Tr)(cs:jE),ey S w (chain xs) cs->ey S w (chain (xs++[t])) (cs++ds)
 |[],cs,h=>by
  have c:ey S w (.slice [] []) cs:=h;rw[ey]at c;subst c;exact d
 |x::xs,cs,h=>by
  have c:=h;unfold ey at c;split at c
  ·rename_i b;obtain⟨r,m,j,o,nt,i,ts,s,a,e,p,f,q,n,l,g,k⟩:=c;injection b with h1 h2;injection h1 with h1 _;injection h2 with h2 _;subst h2;subst h1;subst e;show ey S w (.slice [_] [chain (xs++[t])]) _;rw[ey];exact⟨r,m,j,o,nt,i,ts,s,a++ds,by simp,p,f,q,n,l,g,xM d xs a k⟩
  ·rename_i b;injection b with h1 h2;cases h1
  ·exact c.elim
theorem eJ.mono{a:Nat->Prop}(h:eJ S w w')(c:∀b,a b->S b):eJ a w w':=λb cs t d=>h b cs t (c b d)
theorem qX{d w4:jW}{A:Obj}{l:List eD}(f:Gr P w d)(g:(d.alloc A).grownBy w4 v.ownBlock)(j:∀i,v.ownBlock=some i->w.heap.size<=i)(k:P<w.heap.size)(m:a<w.heap.size)(n:PS d P a o c l):
  Gr P w w4/\PS w4 P a o c l/\eJ (λi=>some i≠v.ownBlock) d w4:=by
 have p:=f.size;have q:=g.size;simp at q;refine⟨⟨g.os.trans f.os,g.tape.trans f.tape,g.output.trans f.output,by omega,λb r s=>?_⟩,n.of ?_ ?_,λb cs t r _ h=>?_⟩
 ·rw[g.block b (by simp;omega) (λe=>by have:=j b e.symm;omega),ed (by omega)];exact f.block b r s
 ·rw[g.block P (by simp;omega) (λe=>by have:=j P e.symm;omega),ed (by omega)]
 ·rw[g.block a (by simp;omega) (λe=>by have:=j a e.symm;omega),ed (by omega)]
 ·have u:=(aC.1 h).1;rw[g.block b (by simp;omega) r,ed u];exact h
structure OC (n d:Nat) (w:jW) (P T:Nat) (l:List eD) (M:R Tr) (v:jU) (k:Nat) (wr:jW):Prop where
 at':∃xs ys lc o' c' f,k+lc.length<=l.length+1/\wr.ownsRow w.heap.size 147 7 v k ys/\ey (λi=>w.heap.size<=i/\some i≠v.ownBlock) wr (chain xs) ys/\PS wr P T o' c' lc/\fL lc/\lc.length<l.length/\
  M=wH xs (iZ f 1 d lc)/\3*lc.length+1<=f/\f<=n
 gr:Gr P w wr
theorem zF(n:Nat)(IS:∀m,m<=n->Sz m)(d:Nat)(w:World)(P T o c:Nat)(l:List eD)(h:At w P T o c d l)(hn:3*l.length+2<=n+1):
  aA 97 #[.pointer (some ⟨P,0,none⟩),.int .i64 (d:Int)] w (ua w P T (iZ (n+1) 0 d l)):=by
 obtain⟨i0,D5,D9,D7,E0⟩:=info_parts OB;have J:=jI h;have HN:=jI hn;have A5:=h.deep;have D6:Hid (∀m,m<=n->∀(w:World)(o c:Nat)(l:List eD),At w P T o c (d+1) l->3*l.length<=m->aA 149 #[.pointer (some ⟨P,0,none⟩),.int .i64 ((d:Int)+1)] w (nB w P T (iZ m 2 (d+1) l))):=λm hm w o c l h hl=>by
  have:=IS m hm (d+1) w P T o c l h hl;rw[show((d+1:Nat):Int)=(d:Int)+1 by omega]at this;exact this
 have E4:d<=100000:=by omega
 have z:Hid (∀e w',ua w P T (iZ (n+1) 0 d l) e w'->ua w P T (iZ (n+1) 0 d l) e w'):=λ_ _ h=>h;generalize hG:ua w P T (iZ (n+1) 0 d l)=G at*;clear z;have z:Hid (∀e w',ua w P T (iZ (n+1) 0 d l) e w'->G e w'):=λe w' h=>by rw[<-hG];exact h
 have HM:Hid (iZ (n+1) 0 d l=eT (l8 d l) λ_ _=>eT (eC [123] l) λ_ E=>iZ n 1 d E):=by show _=_;rw[iZ]
 clear h hn A5 IS hG;by_cases N:d<=12\/(hd l).k=3
 rotate_left
 ·have A5:=J.deep;have HB:Hid (aA 148 #[.pointer (some ⟨P,0,none⟩),.int .i64 (d:Int)] w λe w'=>fQ 4 (hd l).p e w'/\Gr P w w'):=(ym w P T o c (hd l) l.tail J.psc d (by omega) (by omega) (by omega)).mono λe w' ⟨a,b⟩=>⟨a,em b⟩;have D8:=jI N;clear A5 N;go_enter Tryz.func97,Tryz.ntmps97
  go_wp2_with(go_at_call 148;fail)
  refine HB.mono ?_;rintro e w1 ⟨⟨a,rfl,ha⟩,j⟩;refine⟨rfl,z.out _ _ (.inr ⟨4,(hd l).p,?_,⟨a,rfl,ha⟩,j⟩)⟩;rw[HM.out];unfold l8;have E3:=D8.out;rw[if_pos (by omega)];rfl
 have HB:=jI (sX J.out N);have A4:Hid (iZ (n+1) 0 d l=eT (eC [123] l) λ_ E=>iZ n 1 d E):=by
  show _=_;rw[HM.out];unfold l8;rw[if_neg (by omega)];rfl
 clear N HM;go_enter Tryz.func97,Tryz.ntmps97
 go_wp2_with(go_at_call 148;fail)
 refine HB.mono ?_;rintro e w1 ⟨rfl,y⟩;have D4:=jI (J.below y);have C9:Hid (Gr P w w1):=em y;clear y
 go_wp2_with(go_at_call 92;fail)
 refine(jY D4.out ⟨#[123]⟩ (by decide)).mono ?_;rintro e w2 (⟨F,rfl,A,j,he,H⟩|⟨F,⟨b,rfl,y⟩,j⟩)
 rotate_left
 ·refine⟨rfl,z.out _ _ (.inr ⟨_,_,?_,⟨b,rfl,y⟩,C9.trans j⟩)⟩;have A1:=F;rw[A4.out,A1];rfl
 obtain⟨M,hM⟩:=aB (iZ n 1 d l.tail);have B4:Hid (iZ (n+1) 0 d l=M):=by
  show _=_;have A1:=F;rw[A4.out,A1,hM];rfl
 have C1:Hid (OC n d w P T l M (.slice none 0 0) 0 w2):=by
  refine⟨⟨[],[],l.tail,_,_,n,by omega,bj _ _ _ _,by rw[chain,ey],A,he,H,?_,by have:=HN.out;omega,aD _⟩,C9.trans j⟩;rw[hM];cases iZ n 1 d l.tail<;>rfl
 clear F A j he H hM A4
 go_wp2_with fail
 go_loopw [5] (λv5 wr=>∃(q:Option Addr)(k c:Nat),v5= .slice q k c/\Hid (OC n d w P T l M (.slice q k c) k wr)) (λ_ wr=>ju P wr)
 case atStart=>exact⟨none,0,0,rfl,C1.out⟩
 case round=>
  clear C1;obtain⟨q,k,cq,rfl,HI⟩:=hrel;obtain⟨⟨xs,ys,Q,o0,c0,f,B7,U,hx,A,he,hl,B6,C0,B0⟩,A8⟩:=HI.out;obtain⟨f,rfl⟩:∃f',f=f'+1:=⟨f-1,by omega⟩;have E5:k<=200000:=by have:=J.deep;omega
  have A7:=jI B6;have D2:=jI A.plen;have s:Hid (At wr P T o0 c0 (d+1) Q):=J.go A8 A he (by have:=J.deep;omega);have x:Hid (3*Q.length+1<=f+1/\f+1<=n/\Q.length<l.length/\k+Q.length<=l.length+1):=⟨C0,B0,hl,B7⟩;obtain⟨A2,A9,Y⟩:=j3 hx U A8;clear B7 U hx A he hl A8 HI B6 C0 B0
  go_wp2_with(go_at_call 94;fail)
  refine(iO s.out ⟨#[125]⟩ (by decide)).mono ?_;rintro e w3 (⟨F,rfl,A,j,he,H⟩|⟨F,rfl,y⟩)
  ·have A0:Hid (ey (Fr w.heap.size) w3 (chain xs) ys):=ey.mono (λ_ h _=>h.1) _ _ (ey.kept (eJ.gr s.ps j) _ _ A2.out);obtain⟨I,E1,C,K⟩:=j4 ((eJ.gr (S:=λ_=>True) s.ps j).row (by decide) A9.out (λ_ _=>trivial)) A (Y.trans j) F;clear F A j he H;go_wp2;refine z.out _ _ (.inl ⟨chain xs,Q.tail,_,k,ys,_,_,?_,rfl,I.out,A0.out,E1.out,C.out⟩)
   rw[B4.out,A7.out,iZ,if_pos K.out,<-qH];rfl
  have j:Gr P wr w3:=em y;obtain⟨A0,I,A3,C,K⟩:=j5 (ey.kept (eJ.gr s.ps j) _ _ A2.out) ((eJ.gr (S:=λ_=>True) s.ps j).row (by decide) A9.out (λ_ _=>trivial)) (s.below y) (Y.trans j) F;clear F y j A2 A9 Y
  go_wp2_with(go_at_call 149;fail)
  refine(D6.out f (by have:=x.out;omega) _ _ _ Q A3.out (by have:=x.out;omega)).mono ?_;rintro e L (⟨t,E,cs,o1,c1,hr,rfl,hx,A,j⟩|⟨k1,p1,hr,⟨b,rfl,y⟩,j⟩)
  rotate_left
  ·refine⟨rfl,z.out _ _ (.inr ⟨k1,p1,?_,⟨b,rfl,y⟩,C.trans j⟩)⟩;rw[B4.out,A7.out,iZ,if_neg K.out,hr];rfl
  obtain⟨Z,n1,y2,p3,p4,s5,m5,c5,s6,m6,c6,rfl⟩:=yP hx;obtain⟨C7,W⟩:=jg f 2 (d+1) Q t E s.ends hr;obtain⟨HR,C8,C2,D1,C4,E2⟩:=j6 hr hx (ey.kept (eJ.gr A3.ps j) _ _ A0.out) A (C.trans j) j.size;have D:Hid (fL E/\E.length<Q.length):=⟨C7,W⟩;have O:Hid (∀i,(Value.slice q k cq).ownBlock=some i->w.heap.size<=i/\i<w3.heap.size):=λi hi=>I.lt i hi;have B1:Hid ((L.alloc (.cells #[.int .i64 Z,.int .i64 n1,.string y2,.pointer p3,.pointer p4,.slice s5 m5 c5,.slice s6 m6 c6] 147)).ownsRow w.heap.size 147 7 (.slice q k cq) k ys):=((eJ.gr (S:=λ_=>True) A3.ps j).row (by decide) I.out (λ_ _=>trivial)).alloc _;have B3:=jI (World.news_of_block (cs:=#[.int .i64 Z,.int .i64 n1,.string y2,.pointer p3,.pointer p4,.slice s5 m5 c5,.slice s6 m6 c6]) (t:=147) (fr:=(0,0)) (heap_alloc_last L _));have B8:Hid (∀u∈([.int .i64 Z,.int .i64 n1,.string y2,.pointer p3,.pointer p4,.slice s5 m5 c5,.slice s6 m6 c6]:List Value),u.oneCell'=true):=λu hu=>by simp at hu;rcases hu with rfl|rfl|rfl|rfl|rfl|rfl|rfl<;>rfl
  have B5:Hid (w.heap.size<=(L.alloc (.cells #[.int .i64 Z,.int .i64 n1,.string y2,.pointer p3,.pointer p4,.slice s5 m5 c5,.slice s6 m6 c6] 147)).heap.size):=by show _<=_;have:=C4.size;simp;omega
  clear hr hx A j C7 W
  go_wp2_with(at_builtin;refine wpList_append_lies _ rfl _ _ 84 rfl w.heap.size 147 i0 _ 7 96 Tryz.underlying84 D5 D9 D7 E0 rfl (by decide) _ k _ rfl B1.out ⟨L.heap.size,0,none⟩ 1 1 [.int .i64 Z,.int .i64 n1,.string y2,.pointer p3,.pointer p4,.slice s5 m5 c5,.slice s6 m6 c6] rfl rfl B3.out B8.out (by decide) (by unfold maxLen;omega) (by omega) B5.out (L.heap.size+1) (by simp) ?_)
  intro g5 V w5 B v C5 D0;obtain⟨B2,A6,C3⟩:=qX C4.out v (λi hi=>(O.out i hi).1) J.ltP J.ltT D1.out;have B9:Hid (ey (λi=>w.heap.size<=i/\some i≠(Value.slice (some ⟨g5,0,none⟩) (k+1) V).ownBlock) w5 (chain (xs++[t])) (ys++[.int .i64 Z,.int .i64 n1,.string y2,.pointer p3,.pointer p4,.slice s5 m5 c5,.slice s6 m6 c6])):=by
   have hA:ey (λi=>w.heap.size<=i/\some i≠(Value.slice q k cq).ownBlock/\i<L.heap.size) L (chain xs) ys:=ey.mono (λi h hi=>⟨h.1,h.2,hi⟩) _ _ C2.out;have hB:ey (λi=>w.heap.size<=i/\some i≠(Value.slice q k cq).ownBlock/\i<L.heap.size) L (cc t ce) [.int .i64 Z,.int .i64 n1,.string y2,.pointer p3,.pointer p4,.slice s5 m5 c5,.slice s6 m6 c6]:=ey.mono (λi h hi=>⟨by have:w3.heap.size<=i:=h;have:=C.size;omega,λe=>by have:=(O.out i e.symm).2;have:w3.heap.size<=i:=h;omega,hi⟩) _ _ C8.out;have hC:=xM hB xs ys hA;refine ey.mono (λi h _=>⟨h.1,λe=>?_⟩) _ _ (ey.kept (C3.mono λb y=>y.2.1) _ _ hC);have e':i=g5:=by injection e
   rcases C5 with hh|hh
   ·exact h.2.1 (by rw[hh,e'])
   ·have:=h.2.2;omega
  have D3:Hid (OC n d w P T l M (.slice (some ⟨g5,0,none⟩) (k+1) V) (k+1) w5):=by
   refine⟨⟨xs++[t],_,E,o1,c1,f,?_,B,B9.out,A6,D.out.1,?_,?_,?_,?_⟩,B2⟩
   ·have:=x.out;have:=D.out.2;omega
   ·have:=x.out;have:=D.out.2;omega
   ·rw[A7.out,iZ,if_neg K.out,HR.out];show wH xs (eT (iZ f 1 d E) _)=_;cases iZ f 1 d E with
    |error e=>rfl
    |ok r=>obtain⟨g,l2⟩:=r;exact(qG xs t g l2).symm
   ·have:=x.out;have:=D.out.2;omega
   ·have:=x.out;omega
  have C6:Hid (ju P w5<ju P wr):=by
   show _<_;rw[D2.out,A6.plen];exact D.out.2
  clear B v C5 D0 B2 A6 C3 B9 B3 B8 B5 B1 C8 C2;go_wp2;exact⟨⟨_,_,_,rfl,D3.out⟩,C6.out⟩
theorem Fp:∀n m,m<=n->CW m/\Sz m
 |0,m,a=>by
  obtain rfl:m=0:=by omega
  exact⟨λd w P b o c l h e=>by have:=h.pos;omega,λd w P b o c l h e=>by have:=h.pos;omega⟩
 |n+1,m,a=>by
  have f:=Fp n;by_cases g:m<=n
  ·exact f m g
  obtain rfl:m=n+1:=by omega
  refine⟨λd w P b o c l h e=>zF n (λm a=>(f m a).2) d w P b o c l h e,λd w P b o c l h e=>?_⟩;by_cases i:(hd l).k=0
  ·exact Av n d w P b o c l h i
  ·exact Dz n (f n (aD _)).1 d w P b o c l h e i
def sR(d:Nat)(l:List eD):R Tr:=iZ (3*l.length+5) 0 d l
theorem Fq{l:List eD}(h:At w P a o c d l):aA 97 #[jP P,jV (d:Int)] w (ua w P a (sR d l)):=(Fp _ _ (aD _)).1 d w P a o c l h (by omega)
abbrev pr(nm:By)(ty:Int):Tr:= .agg [.lit (.string nm),.lit (.int .i64 ty)]
abbrev S1(nm:By)(a:Int)(c b:Tr):Tr:= .agg [.lit (.string nm),.lit (.int .i64 a),c,b]
def oI(l:List eD):R Tr:=eT (im l) λnm a=>eT (eC [58] a) λ_ b=>
 if(hd b).t=[97,114,114] then .ok (pr nm 2,b.tail) else eT (eC [105,110,116] b) λ_ c=> .ok (pr nm 1,c)
def kM:Nat->List eD->R Tr
 |0,_=> .error (0,0)
 |f+1,l=>eT (oI l) λx a=>if(hd a).t=[44] then eT (kM f a.tail) λg b=> .ok (cc x g,b) else eT (eC [41] a) λ_ b=> .ok (cc x ce,b)
def pU(l:List eD):R Tr:=if(hd l).t=[41] then .ok (ce,l.tail) else kM (l.length+2) l
def zI(l:List eD):R Tr:=eT (eC [102,110] l) λ_ a=>eT (im a) λnm c=>eT (eC [40] c) λ_ d=>eT (pU d) λe f=>eT (sR 0 f) λb g=> .ok (S1 nm (hd l).p e b,g)
def ja:Nat->Nat->List eD->R Tr
 |0,_,_=> .error (0,0)
 |f+1,n,l=>if(hd l).k=3 then .ok (ce,l) else if n=12 then .error (4,(hd l).p) else eT (zI l) λx a=>eT (ja f (n+1) a) λg b=> .ok (cc x g,b)
theorem xR{l a:List eD}(h:oI l= .ok (t,a))(g:fL l):fL a/\a.length<l.length:=by
 unfold oI at h;obtain⟨nm,j,h1,h⟩:=ee h;obtain⟨f,k⟩:=oz h1 g;obtain⟨_,n,h2,h⟩:=ee h;obtain⟨d,i⟩:=gH h2 (by decide) f;split at h
 ·rename_i c;obtain⟨b,e⟩:=iB c (by decide) d;obtain⟨_,rfl⟩:=eV h;exact⟨b,by omega⟩
 ·obtain⟨_,m,c,h⟩:=ee h;obtain⟨b,e⟩:=gH c (by decide) d;obtain⟨_,rfl⟩:=eV h;exact⟨b,by omega⟩
theorem uJ:∀(f:Nat){l a:List eD}{t:Tr},kM f l= .ok (t,a)->fL l->fL a/\a.length<l.length
 |0,l,a,t,h,e=>by simp[kM]at h
 |f+1,l,a,t,h,e=>by
  rw[kM]at h;obtain⟨x,o,h1,h⟩:=ee h;obtain⟨d,n⟩:=xR h1 e;split at h
  ·rename_i h2;obtain⟨i,m⟩:=iB h2 (by decide) d;obtain⟨g,k,c,h⟩:=ee h;obtain⟨b,j⟩:=uJ f c i;obtain⟨_,rfl⟩:=eV h;exact⟨b,by omega⟩
  ·obtain⟨_,k,c,h⟩:=ee h;obtain⟨b,j⟩:=gH c (by decide) d;obtain⟨_,rfl⟩:=eV h;exact⟨b,by omega⟩
theorem CY{l a:List eD}(h:pU l= .ok (t,a))(b:fL l):fL a/\a.length<l.length:=by
 unfold pU at h;split at h
 ·rename_i h2;obtain⟨c,d⟩:=iB h2 (by decide) b;obtain⟨_,rfl⟩:=eV h;exact⟨c,d⟩
 ·exact uJ _ h b
theorem Bz{l a:List eD}(h:zI l= .ok (t,a))(c:fL l):fL a/\a.length<l.length:=by
 unfold zI at h;obtain⟨_,d,h1,h⟩:=ee h;obtain⟨e,f⟩:=gH h1 (by decide) c;obtain⟨nm,g,h2,h⟩:=ee h;obtain⟨i,j⟩:=oz h2 e;obtain⟨_,k,m,h⟩:=ee h;obtain⟨n,o⟩:=gH m (by decide) i;obtain⟨p,q,r,h⟩:=ee h;obtain⟨s,u⟩:=CY r n;obtain⟨b,v,w,h⟩:=ee h;obtain⟨x,y⟩:=jg _ 0 0 q b v s w;obtain⟨_,rfl⟩:=eV h;exact⟨x,by omega⟩
theorem MA{a:Func}{p:Tmp}(h:a.results=#[.cell p 144])(b:Array Value)(w:jW)(g:Nat)(c d:jU)(e:b.getD p undef=jP g)(f:w.heap[g]?=some (jC #[c,d] 144)):
  (results a b).run Tryz.prog w= .ok (.agg #[c,d]) w:=by
 rw[gC h,e];have h1:(loadVar 144 (jA g)).run Tryz.prog w= .ok (.agg #[c,d]) w:=cm w g 144 144 _ (0,0) _ f Tryz.underlying144 rfl (by kernel_rfl);simp only[asAddr,dT,dr,h1]
def xS(w:jW)(P a:Nat)(r:R Tr)(e:Ending)(w':jW):Prop:=
 (∃(nm:By)(ty:Int)(b:List eD)(c d:Nat)(f:ByteArray),r= .ok (pr nm ty,b)/\str nm=jT f/\e=jR (.agg #[jT f,jV ty])/\PS w' P a c d b/\Gr P w w')\/(∃k p,r= .error (k,p)/\fQ k p e w'/\Gr P w w')
theorem zJ(d:Nat)(w:jW)(P a o c:Nat)(l:List eD)(h:At w P a o c d l):
  aA 96 #[jP P] w (xS w P a (oI l)):=by
 obtain⟨y,f,g⟩:=fU (hd l).t;have j:=jI h;have m:=jI f;have n:Hid (∀e w',xS w P a (oI l) e w'->xS w P a (oI l) e w'):=λ_ _ h=>h;generalize p:xS w P a (oI l)=G at*;clear n;have n:Hid (∀e w',xS w P a (oI l) e w'->G e w'):=λe w' h=>by rw[<-p];exact h
 clear h f g p;go_enter Tryz.func96,Tryz.ntmps96
 go_wp2_with(go_at_call 93;fail)
 have r:az w (w.alloc (jC #[jT ⟨#[]⟩,jV 0] 144)):=(aJ _ _).alloc (aD _) _;refine(yN (j.below r)).mono ?_;rintro e s (⟨u,rfl,v,x,z,A⟩|⟨k,u,⟨b,rfl,B⟩,x⟩)
 rotate_left
 ·refine⟨rfl,n _ _ (.inr ⟨k,_,?_,⟨b,rfl,B⟩,(em r).trans x⟩)⟩;unfold oI;rw[u];rfl
 have C:=jI u;have D:Hid (s.heap[w.heap.size]?=some (jC #[jT ⟨#[]⟩,jV 0] 144)):=x.blk (heap_alloc_last w _) (by have:=j.ltP;omega);have E:=jI ((em r).trans x);have F:Hid (At s P a (o+3) (c-1) d l.tail):=j.go E v z (by have:=j.deep;omega);rw[m.out];clear u v x z A r
 go_wp2_with(go_at_call 92;fail)
 obtain⟨H,I⟩:=aB (s.alloc (jC #[jT y,jV 1] 144));obtain⟨q,J⟩:=aB s.heap.size;have K:w.heap.size<s.heap.size:=(aC.1 D).1;have L:Hid (w.heap.size<q):=by show _<_;omega
 have M:Hid (H.heap[q]?=some (jC #[jT y,jV 1] 144)):=by show _=_;rw[I,J];exact heap_alloc_last s _
 have N:Hid (H.heap[w.heap.size]?=some (jC #[jT ⟨#[]⟩,jV 0] 144)):=by show _=_;rw[I,ed K];exact D
 have O:Hid (Gr P w H):=by show Gr _ _ _;rw[I];exact E.alloc _
 have Q:Hid (At H P a (o+3) (c-1) d l.tail):=by show At _ _ _ _ _ _ _;rw[I];exact F.below ((aJ _ _).alloc (aD _) _)
 rw[<-I,<-J];clear I J K D E F;refine(jY Q ⟨#[58]⟩ (by decide)).mono ?_;rintro e S (⟨u,rfl,v,x,z,A⟩|⟨u,⟨b,rfl,B⟩,x⟩)
 rotate_left
 ·refine⟨rfl,n _ _ (.inr ⟨_,_,?_,⟨b,rfl,B⟩,O.trans x⟩)⟩;have T:=u;unfold oI;rw[C.out];show eT (eC [58] l.tail) _=_;rw[T];rfl
 have U:=jI u;have V:Hid (S.heap[q]?=some (jC #[jT y,jV 1] 144)):=x.blk M (by have:=L.out;have:=j.ltP;omega);have W:Hid (S.heap[w.heap.size]?=some (jC #[jT ⟨#[]⟩,jV 0] 144)):=x.blk N (by have:=j.ltP;omega);have Y:=jI (O.trans x);have Z:Hid (At S P a (o+3+3) (c-1-1) d l.tail.tail):=j.go Y v z (by have:=Q.deep;omega);clear u v x z A M N O Q
 go_wp2_with(go_at_call 94;fail)
 refine(iO Z ⟨#[97,114,114]⟩ (by decide)).mono ?_;rintro e w4 (⟨u,rfl,v,x,z,A⟩|⟨u,rfl,B⟩)
 ·have f:=x.blk V (by have:=L.out;have:=j.ltP;omega);have g:=x.blk W (by have:=j.ltP;omega);have p:=ea f 1;have r:=jc 0 f;have s:=jc 1 f;have D:=ea g;have E:=jc 0 g;have F:=jc 1 g;have H:¬w.heap.size=q:=by have:=L.out;omega
  have I:¬q=w.heap.size:=by have:=L.out;omega
  have J:Hid ((w4.setCell (jB q 1) (jV 2)).heap[w.heap.size]?=some (jC #[jT ⟨#[]⟩,jV 0] 144)):=by
   show _=_;rw[aG _ _ _ _ (by show w.heap.size≠q;omega)];exact g
  have K:Hid (PS (w4.setCell (jB q 1) (jV 2)) P a (o+3+3+3) (c-1-1-1) l.tail.tail.tail):=v.set (by have:=L.out;have:=j.ltP;omega) (by have:=L.out;have:=j.ltT;omega);have M:Hid (Gr P w (w4.setCell (jB q 1) (jV 2))):=(Y.trans x).set (by have:=L.out;omega);have N:=jI u;clear f g u v x z A V W;go_wp2
  try simp only[Exit.inBlock,Exit.then]
  refine bodyPost_ret (MA Tryz.results96 _ _ w.heap.size (jT y) (jV 2) rfl (aH _ _ _ _ _ _ (aH _ _ _ _ _ _ J))) rfl (n _ _ (.inl ⟨(hd l).t,2,l.tail.tail.tail,_,_,y,?_,m,rfl,(K.set j.ltP j.ltT).set j.ltP j.ltT,(M.set (aD _)).set (aD _)⟩));unfold oI;rw[C.out];show eT (eC [58] l.tail) _=_;rw[U.out];show(if(hd l.tail.tail).t=[97,114,114] then _ else _)=_;rw[if_pos N.out]
 ·have x:Gr P S w4:=em B;have O:Hid (w4.heap[q]?=some (jC #[jT y,jV 1] 144)):=x.blk V (by have:=L.out;have:=j.ltP;omega);have J:Hid (w4.heap[w.heap.size]?=some (jC #[jT ⟨#[]⟩,jV 0] 144)):=x.blk W (by have:=j.ltP;omega);obtain⟨M,Q,N⟩:=j3 (Y.trans x) (Z.below B) u;clear u B x V W Y Z
  go_wp2_with(go_at_call 92;fail)
  refine(jY Q ⟨#[105,110,116]⟩ (by decide)).mono ?_;rintro e p (⟨u,rfl,v,x,z,A⟩|⟨u,⟨b,rfl,B⟩,x⟩)
  rotate_left
  ·refine⟨rfl,n _ _ (.inr ⟨_,_,?_,⟨b,rfl,B⟩,M.trans x⟩)⟩;have T:=u;unfold oI;rw[C.out];show eT (eC [58] l.tail) _=_;rw[U.out];show(if(hd l.tail.tail).t=[97,114,114] then _ else eT (eC [105,110,116] l.tail.tail) _)=_;rw[if_neg N.out,T];rfl
  have a:=x.blk O (by have:=L.out;have:=j.ltP;omega);have S:=x.blk J (by have:=j.ltP;omega);have r:=jc 0 a;have s:=jc 1 a;have D:=ea S;have E:=jc 0 S;have F:=jc 1 S;have H:¬w.heap.size=q:=by have:=L.out;omega
  have I:¬q=w.heap.size:=by have:=L.out;omega
  obtain⟨f,g,K,V⟩:=j4 S v (M.trans x) u;clear a S u v x z A O J;go_wp2
  try simp only[Exit.inBlock,Exit.then]
  refine bodyPost_ret (MA Tryz.results96 _ _ w.heap.size (jT y) (jV 1) rfl (aH _ _ _ _ _ _ (aH _ _ _ _ _ _ f))) rfl (n _ _ (.inl ⟨(hd l).t,1,l.tail.tail.tail,_,_,y,?_,m,rfl,(g.set j.ltP j.ltT).set j.ltP j.ltT,(K.set (aD _)).set (aD _)⟩));unfold oI;rw[C.out];show eT (eC [58] l.tail) _=_;rw[U.out];show(if(hd l.tail.tail).t=[97,114,114] then _ else eT (eC [105,110,116] l.tail.tail) _)=_;rw[if_neg N.out,V.out];rfl
theorem Ez:(Tryz.prog.info? 144).map (λi=>(i.zero,i.size,i.bytes))=some (some (.agg #[jT ⟨#[]⟩,jV 0]),2,24):=by kernel_rfl
def DN(xs:List (By×Int)):Tr:=chain (xs.map λx=>pr x.1 x.2)
def lA(xs:List (By×Int)):jE:=xs.flatMap λx=>[str x.1,jV x.2]
def eX(S:Nat->Prop)(w:jW):Tr->jE->Prop
 | .slice [.agg [.lit (.string nm),.lit (.int _ a),c,b]] [g],cs=>
  ∃(d e:jU) (f:Nat) (xs:List (By×Int)) (h i:jE),cs=[str nm,jV a,d,e]++i/\c=DN xs/\fy S w 144 2 d xs.length (lA xs)/\fy S w 147 7 e f h/\ey S w b h/\eX S w g i
 | .slice [] [],cs=>cs=[]
 |_,_=>False
theorem eX.kept(h1:eJ S w w')(t:Tr)(cs:jE)(h:eX S w t cs):eX S w' t cs:=by
 unfold eX at h;split at h
 ·obtain⟨a,b,c,xs,d,f,e,g,i,j,k,l⟩:=h;rw[eX];exact⟨a,b,c,xs,d,f,e,g,i.kept h1 (by decide),j.kept h1 (by decide),ey.kept h1 _ _ k,eX.kept h1 _ _ l⟩
 ·rw[eX];exact h
 ·exact h.elim
theorem eX.mono{a:Nat->Prop}(h1:∀b,S b->b<w.heap.size->a b)(t:Tr)(cs:jE)(h:eX S w t cs):eX a w t cs:=by
 unfold eX at h;split at h
 ·obtain⟨c,d,f,xs,g,i,e,j,k,l,m,n⟩:=h;rw[eX];exact⟨c,d,f,xs,g,i,e,j,k.mono h1,l.mono h1,ey.mono h1 _ _ m,eX.mono h1 _ _ n⟩
 ·rw[eX];exact h
 ·exact h.elim
theorem eX.old{cs:jE}(h:eX (Fr m) w t cs)(a:n<=m):eX (Fr n) w t cs:=eX.mono (λb c _=>aP a c) t cs h
theorem EA(h:eX S w (cc t ce) cs.toList):∃(i:ByteArray)(o:Int)(p:jO)(k d:Nat)(g:jO)(f l:Nat),cs=#[jT i,jV o,jL p k d,jL g f l]:=by
 unfold eX at h;split at h
 ·rename_i a;obtain⟨r,x,s,xs,j,b,e,z,m,n,A,c⟩:=h;injection a with h1 h2;injection h2 with h2 _;subst h2;have:b=[]:=by rw[eX]at c;exact c
  subst this;obtain⟨q,y,rfl⟩:=eh m.1;obtain⟨u,v,rfl⟩:=eh n.1;have h:=congrArg List.toArray e;rw[bM]at h;exact⟨_,_,_,_,_,_,_,_,h⟩
 ·rename_i a;injection a with h1 h2;cases h1
 ·exact h.elim
theorem wZ(f:eX S w (cc t ce) ds):∀(xs:List Tr)(cs:jE),eX S w (chain xs) cs->eX S w (chain (xs++[t])) (cs++ds)
 |[],cs,h=>by
  have c:eX S w (.slice [] []) cs:=h;rw[eX]at c;subst c;exact f
 |x::xs,cs,h=>by
  have c:=h;unfold eX at c;split at c
  ·rename_i b;obtain⟨j,k,n,zs,d,a,e,m,g,o,l,i⟩:=c;injection b with h1 h2;injection h1 with h1 _;injection h2 with h2 _;subst h2;subst h1;subst e;show eX S w (.slice [_] [chain (xs++[t])]) _;rw[eX];exact⟨j,k,n,zs,d,a++ds,by simp,m,g,o,l,wZ f xs a i⟩
  ·rename_i b;injection b with h1 h2;cases h1
  ·exact c.elim
theorem QX{a:Func}{p:Tmp}(h:a.results=#[.cell p 86])(b:Array Value)(w:jW)(g:Nat)(c d e f:jU)(i:b.getD p undef=jP g)(j:w.heap[g]?=some (jC #[c,d,e,f] 86)):
  (results a b).run Tryz.prog w= .ok (.agg #[c,d,e,f]) w:=by
 rw[gC h,i];have h1:(loadVar 86 (jA g)).run Tryz.prog w= .ok (.agg #[c,d,e,f]) w:=cm w g 86 86 _ (0,0) _ j Tryz.underlying86 rfl (by kernel_rfl);simp only[asAddr,dT,dr,h1]
def w_(w:jW)(P a:Nat)(r:R Tr)(e:Ending)(w':jW):Prop:=
 (∃t b cs c d,r= .ok (t,b)/\e=jR (.agg cs)/\eX (Fr w.heap.size) w' (cc t ce) cs.toList/\PS w' P a c d b/\Gr P w w')\/(∃k p,r= .error (k,p)/\fQ k p e w'/\Gr P w w')
structure FW (w:jW) (P T q m:Nat) (cs:Array Value) (o c d:Nat) (l:List eD) (W:jW):Prop where
 res:W.heap[w.heap.size]?=some (jC #[jT ⟨#[]⟩,jV 0,jS,jS] 86)
 blk:W.heap[q]?=some (.cells cs 86)
 gr:Gr P w W
 ltq:w.heap.size<q
 ltP:P<w.heap.size
 ltT:T<w.heap.size
 a:At W P T o c d l
 lt:q<m
 le:m<=W.heap.size
theorem FW.set{l:List eD}(h:FW w P b q m cs o c d l W)(i:Nat)(v:jU):FW w P b q m (cs.setIfInBounds i v) o c d l (W.setCell (jB q i) v):=by
 have e:=h.ltP;have f:=h.ltq;have g:=h.ltT;refine⟨?_,aH _ _ _ _ _ _ h.blk,h.gr.set (by omega),f,e,g,⟨h.a.env.of_set (by have:=h.a.far;omega),h.a.ps.set (by omega) (by omega),h.a.ends,h.a.far,h.a.deep⟩,h.lt,by simp;exact h.le⟩;rw[aG _ _ _ _ (by show w.heap.size≠q;omega)];exact h.res
theorem FW.go{l g:List eD}(h:FW w P b q m cs o c d l W)(i:Gr P W W')(j:PS W' P b e f g)(k:fL g)(n:g.length<=l.length):FW w P b q m cs e f d g W':=
 ⟨i.blk h.res (by have:=h.ltP;omega),i.blk h.blk (by have:=h.ltP;have:=h.ltq;omega),h.gr.trans i,h.ltq,h.ltP,h.ltT,h.a.go i j k (by have:=h.a.deep;omega),h.lt,aP h.le i.size⟩
theorem FW.kset{l:List eD}(h:FW w P a q m cs o c d l W)(i:Nat)(v:jU):eJ (Fr m) W (W.setCell (jB q i) v):=eJ.set h.lt
theorem FW.kgo{l:List eD}(h:FW w P b q m cs o c d l W)(e:Gr P W W'):eJ (Fr m) W W':=eJ.gr h.a.ps e
structure Td (w:jW) (P T q m d:Nat) (z:ByteArray) (p:Int) (M:R Tr) (l:List eD) (b:Bool) (wr:jW):Prop where
 at':∃(xs:List (By×Int)) (lc:List eD) (o' c':Nat) (qv:jO) (cv:Nat),FW w P T q m #[jT z,jV p,jL qv xs.length cv,jS] o' c' d lc wr/\wr.ownsRow m 144 2 (jL qv xs.length cv) xs.length (lA xs)/\xs.length+lc.length<=l.length+1/\lc.length<=l.length/\
  (b=false->M= .ok (DN xs,lc))/\(b=true->∃f,M=wH (xs.map λx=>pr x.1 x.2) (kM f lc)/\lc.length+2<=f)
theorem ul(d:Nat)(w:World)(P T o c:Nat)(l:List eD)(h:At w P T o c d l):
  aA 61 #[.pointer (some ⟨P,0,none⟩)] w (w_ w P T (zI l)):=by
 obtain⟨y,hy,G0⟩:=fU (hd l).t;obtain⟨i0,F8,G8,G2,G9⟩:=info_parts Ez;have HA:=jI h;have HY:=jI hy;have J:Hid (∀e w',w_ w P T (zI l) e w'->w_ w P T (zI l) e w'):=λ_ _ h=>h;generalize hG:w_ w P T (zI l)=G at*;clear J;have J:Hid (∀e w',w_ w P T (zI l) e w'->G e w'):=λe w' h=>by rw[<-hG];exact h
 have h2:=GI;clear h hy G0 hG;go_enter Tryz.func61,Tryz.ntmps61
 go_wp2_with(go_at_call 59;fail)
 have C8:az w (w.alloc (.cells #[.string ⟨#[]⟩,.int .i64 0,.slice none 0 0,.slice none 0 0] 86)):=(aJ _ _).alloc (aD _) _;refine(iI _ P T o c (hd l) l.tail (HA.below C8).psc y HY.out).mono ?_;rintro e w1 ⟨rfl,S⟩;have s:Gr P (w.alloc (.cells #[.string ⟨#[]⟩,.int .i64 0,.slice none 0 0,.slice none 0 0] 86)) w1:=em S;have C4:Hid (w1.heap[w.heap.size]?=some (.cells #[.string ⟨#[]⟩,.int .i64 0,.slice none 0 0,.slice none 0 0] 86)):=s.blk (heap_alloc_last w _) (by have:=HA.ltP;omega);have C2:=jI (C8.trans (S.mono (by simp)));clear S s C8
 go_wp2_with(go_at_call 92;fail)
 obtain⟨W1,U⟩:=aB (w1.alloc (.cells #[.string ⟨#[]⟩,.int .i64 ((hd l).p:Int),.slice none 0 0,.slice none 0 0] 86));obtain⟨q,hq⟩:=aB w1.heap.size;have B9:w.heap.size<w1.heap.size:=(aC.1 C4.out).1;obtain⟨m,hm⟩:=aB (w1.heap.size+1);have B3:Hid (FW w P T q m #[.string ⟨#[]⟩,.int .i64 ((hd l).p:Int),.slice none 0 0,.slice none 0 0] o c d l W1):=by
  refine⟨?_,?_,?_,by omega,HA.ltP,HA.ltT,?_,by omega,?_⟩
  ·rw[U,ed B9];exact C4.out
  ·rw[U,hq];exact heap_alloc_last w1 _
  ·rw[U];exact(em C2.out).alloc _
  ·rw[U];exact(HA.below C2.out).below ((aJ _ _).alloc (aD _) _)
  ·rw[U,hm];simp
 rw[<-U,<-hq];clear U hq B9 hm C2 C4;refine(jY B3.a ⟨#[102,110]⟩ (by decide)).mono ?_;rintro e w2 (⟨C,rfl,H,s,Y,A⟩|⟨C,⟨b,rfl,S⟩,s⟩)
 rotate_left
 ·refine⟨rfl,J.out _ _ (.inr ⟨_,_,?_,⟨b,rfl,S⟩,B3.gr.trans s⟩)⟩;have N:=C;unfold zI;rw[N];rfl
 obtain⟨B0,B6,E6⟩:=j3 C (B3.go s H Y (aL A)) A;clear C H s Y A B3
 go_wp2_with(go_at_call 93;fail)
 obtain⟨z,hz,F9⟩:=fU (hd l.tail).t;have HZ:=jI hz;clear hz F9;refine(yN B6.a).mono ?_;rintro e V (⟨C,rfl,H,s,Y,A⟩|⟨k,C,⟨b,rfl,S⟩,s⟩)
 rotate_left
 ·refine⟨rfl,J.out _ _ (.inr ⟨k,_,?_,⟨b,rfl,S⟩,B6.gr.trans s⟩)⟩;unfold zI;rw[B0.out];show eT (im l.tail) _=_;rw[C];rfl
 obtain⟨C3,j,D4⟩:=j3 C (B6.go s H Y (aL A)) A;have f0:=ea j.blk 0;have c0:=jc 0 j.blk;rw[HZ.out];clear C H s Y A B6
 go_wp2_with(go_at_call 92;fail)
 obtain⟨W4,D2⟩:=aB (V.setCell ⟨q,0,none⟩ (.string z));have B8:Hid (FW w P T q m #[.string z,.int .i64 ((hd l).p:Int),.slice none 0 0,.slice none 0 0] (o+3+3) (c-1-1) d l.tail.tail W4):=by
  show FW _ _ _ _ _ _ _ _ _ _ _;rw[D2];exact j.set 0 _
 rw[<-D2];clear D2 j f0 c0;refine(jY B8.a ⟨#[40]⟩ (by decide)).mono ?_;rintro e w5 (⟨C,rfl,H,s,Y,A⟩|⟨C,⟨b,rfl,S⟩,s⟩)
 rotate_left
 ·refine⟨rfl,J.out _ _ (.inr ⟨_,_,?_,⟨b,rfl,S⟩,B8.gr.trans s⟩)⟩;have N:=C;unfold zI;rw[B0.out];show eT (im l.tail) _=_;rw[C3.out];show eT (eC [40] l.tail.tail) _=_;rw[N];rfl
 obtain⟨F1,F,D9⟩:=j3 C (B8.go s H Y (aL A)) A;clear C H s Y A B8;obtain⟨l3,B1⟩:=aB l.tail.tail.tail;have A6:Hid (zI l=eT (pU l3) λps l4=>eT (sR 0 l4) λb l5=> .ok (S1 (hd l.tail).t (hd l).p ps b,l5)):=by
  show _=_;unfold zI;rw[B0.out];show eT (im l.tail) _=_;rw[C3.out];show eT (eC [40] l.tail.tail) _=_;rw[F1.out,B1];rfl
 have G4:Hid (l3.length+3<=l.length):=by show _<=_;have:=E6.out;have:=D4.out;have:=D9.out;rw[B1];omega
 rw[<-B1]at F;clear B1 E6 D4 D9 B0 C3 F1;obtain⟨M,hM⟩:=aB (pU l3);have HM:=jI hM;clear hM
 go_wp2_with(go_at_call 94;fail)
 refine(iO F.a ⟨#[41]⟩ (by decide)).mono ?_;have E7:Hid (∀e w1,(((hd l3).t=[41]/\e=Ending.returned (.bool true)/\PS w1 P T (o+3+3+3+3) (c-1-1-1-1) l3.tail/\Gr P w5 w1/\fL l3.tail/\l3.tail.length<l3.length)\/((hd l3).t≠[41]/\e=Ending.returned (.bool false)/\az w5 w1))->∃b:Bool,e= .returned (.bool (!b))/\Td w P T q m d z ((hd l).p:Int) M l3 b w1):=by
  rintro e w1 (⟨C,rfl,H,s,Y,A⟩|⟨C,rfl,S⟩)
  ·refine⟨false,rfl,⟨[],l3.tail,_,_,none,0,F.go s H Y (aL A),bj _ _ _ _,by simp;omega,by omega,λ_=>?_,λh=>by cases h⟩⟩;rw[HM.out];unfold pU;rw[if_pos C];rfl
  ·refine⟨true,rfl,⟨[],l3,_,_,none,0,F.go (em S) (F.a.ps.below S) F.a.ends (aD _),bj _ _ _ _,by simp,aD _,(λh=>by cases h),λ_=>⟨l3.length+2,?_,aD _⟩⟩⟩;rw[HM.out];unfold pU;rw[if_neg C];cases kM (l3.length+2) l3<;>rfl
 intro e w6 A1;obtain⟨b,rfl,hI⟩:=E7.out e w6 A1;have E5:=jI hI;clear A1 hI E7
 go_wp2_with fail
 go_loopw [4] (λv4 wr=>∃(b:Bool),v4= .bool b/\Hid (Td w P T q m d z ((hd l).p:Int) M l3 b wr)) (λ_ wr=>ju P wr)
 case atStart=>exact⟨b,by cases b<;>rfl,E5.out⟩
 case round=>
  clear E5;obtain⟨b,rfl,HI⟩:=hrel;obtain⟨xs,lc,o0,c0,qv,cv,hS,W,C6,hl,C7,C0⟩:=HI.out;have G5:xs.length<=200000:=by have:=HA.deep;have:=G4.out;omega
  cases b with
  |false=>
   have D:=jI hS;have L:=jI W;have D7:Hid (M= .ok (DN xs,lc)):=C7 rfl;clear W C6 hl C7 C0 hS HI
   go_wp2_with(go_at_call 97;fail)
   have F0:=D.a.zero;refine(Fq F0).mono ?_;rintro e V (⟨t,E,v,nb,G3,o1,c1,hr,rfl,A3,hx,H,s⟩|⟨k1,p1,hr,⟨b,rfl,S⟩,s⟩)
   rotate_left
   ·refine⟨rfl,J.out _ _ (.inr ⟨k1,p1,?_,⟨b,rfl,S⟩,D.gr.trans s⟩)⟩;rw[A6.out,<-HM.out,D7.out];show eT (sR 0 lc) _=_;rw[hr];rfl
   obtain⟨qb,cb,rfl⟩:=eh A3;obtain⟨A4,I⟩:=jg _ 0 0 lc t E D.a.ends hr;have n:=D.go s H A4 (aL I);have j:=jI n;have F6:Hid (fy (Fr m) V 144 2 (.slice qv xs.length cv) xs.length (lA xs)):=⟨jd ((D.kgo s).row (by decide) L.out (λi hi=>(L.lt i hi).1)) (aQ _),λi hi=>(L.lt i hi).1⟩;obtain⟨A7,F4,A2⟩:=j3 (wB A3 D.le) (hx.old D.le) hr;have q0:=jc 0 n.blk;have q1:=jc 1 n.blk;have q2:=jc 2 n.blk;have q3:=jc 3 n.blk;have qf:=ea n.blk 3;have r0:=jc 0 n.res;have r1:=jc 1 n.res;have r2:=jc 2 n.res;have r3:=jc 3 n.res;have rf:=ea n.res;have H5:¬w.heap.size=q:=by have:=n.ltq;omega
   have H0:¬q=w.heap.size:=by have:=n.ltq;omega
   clear hr A3 hx H s A4 I F0 n;generalize hk:xs.length=k at*;have HK:=jI hk;clear hk;go_wp2
   try simp only[Exit.inBlock,Exit.then]
   have B:FW w P T q m #[.string z,.int .i64 ((hd l).p:Int),.slice qv k cv,.slice qb nb cb] o1 c1 d E (V.setCell ⟨q,3,none⟩ (.slice qb nb cb)):=j.set 3 _;have C9:=j.kset 3 (.slice qb nb cb);have hm:w.heap.size<m:=by have:=B.ltq;have:=B.lt;omega
   have G6:eX (Fr m) (V.setCell ⟨q,3,none⟩ (.slice qb nb cb)) (cc (S1 (hd l.tail).t (hd l).p (DN xs) t) ce) [.string z,.int .i64 ((hd l).p:Int),.slice qv k cv,.slice qb nb cb]:=by
    rw[eX];refine⟨_,_,nb,xs,G3,[],by rw[HZ.out];rfl,rfl,?_,A7.kept C9 (by decide),ey.kept C9 _ _ F4.out,by rw[eX]⟩;rw[HK.out];exact F6.kept C9 (by decide)
   have A9:w.heap.size<=w.heap.size:=aD _;refine bodyPost_ret (QX Tryz.results61 _ _ w.heap.size _ _ _ _ rfl (aH _ _ _ _ _ _ (aH _ _ _ _ _ _ (aH _ _ _ _ _ _ (aH _ _ _ _ _ _ B.res))))) rfl (J.out _ _ (.inl ⟨S1 (hd l.tail).t (hd l).p (DN xs) t,E,_,o1,c1,?_,rfl,eX.old (eX.kept ((((eJ.set hm).trans (eJ.set hm)).trans (eJ.set hm)).trans (eJ.set hm)) _ _ G6) (aL hm),(((B.a.ps.set B.ltP B.ltT).set B.ltP B.ltT).set B.ltP B.ltT).set B.ltP B.ltT,(((B.gr.set A9).set A9).set A9).set A9⟩));rw[A6.out,<-HM.out,D7.out];show eT (sR 0 lc) _=_;rw[A2.out];rfl
  |true=>
   obtain⟨f,E1,E2⟩:=C0 rfl;obtain⟨f,rfl⟩:∃f',f=f'+1:=⟨f-1,by omega⟩;have B7:=jI E1;have F5:=jI hS.a.ps.plen;have A8:Hid (lc.length+2<=f+1/\lc.length<=l3.length/\xs.length+lc.length<=l3.length+1):=⟨E2,hl,C6⟩;obtain⟨D,Z,L⟩:=j3 hS (hS.go (em (aJ _ _).drew) (hS.a.ps.below (aJ _ _).drew) hS.a.ends (aD _)) W.drew;have c2:=jc 2 hS.blk;clear W C6 hl C7 C0 E1 E2 hS HI;obtain⟨k,hk⟩:=aB xs.length;rw[<-hk]at D Z L A8 G5 c2;have HK:=jI hk;clear hk
   go_wp2_with(go_at_call 96;fail)
   go_region_law (first
    |(go_simp;go_at_call 96;refine(zJ d _ P T _ _ lc Z.a).mono ?_;rintro e V (⟨nm,ty,E,o1,c1,yp,hr,E4,rfl,H,s⟩|⟨k1,p1,hr,⟨b,rfl,S⟩,s⟩);rotate_left;exact(by refine⟨rfl,J.out _ _ (.inr ⟨k1,p1,?_,⟨b,rfl,S⟩,Z.gr.trans s⟩)⟩;rw[A6.out,<-HM.out,B7.out,kM,hr];rfl);obtain⟨A4,I⟩:=xR hr D.a.ends;have n:=Z.go s H A4 (aL I);have j:Hid (FW w P T q m #[.string z,.int .i64 ((hd l).p:Int),.slice qv k cv,.slice none 0 0] o1 c1 d E V):=n;have A2:Hid (oI lc= .ok (pr nm ty,E)):=hr;have G7:Hid (str nm= .string yp):=E4;have B5:Hid (E.length<lc.length):=I;have H4:=jc 2 n.blk;have H2:(V.alloc (.cells #[.string yp,.int .i64 ty] 144)).cell? ⟨q,2,none⟩=some (.slice qv k cv):=jc 2 (ez n.blk _);have O:Hid (∀i,(Value.slice qv k cv).ownBlock=some i->m<=i/\i<wr.heap.size):=λi hi=>L.lt i hi;have A7:Hid ((V.alloc (.cells #[.string yp,.int .i64 ty] 144)).ownsRow m 144 2 (.slice qv k cv) k (lA xs)):=((Z.kgo s).row (by decide) L.out (λi hi=>(L.lt i hi).1)).alloc _;have D8:Hid (∀(i:Nat)(x:Value),([.string yp,.int .i64 ty]:List Value)[i]?=some x->(V.alloc (.cells #[.string yp,.int .i64 ty] 144)).cell? ((⟨V.heap.size,0,none⟩:Addr).add i)=some x):=World.news_of_block (cs:=#[.string yp,.int .i64 ty]) (t:=144) (fr:=(0,0)) (heap_alloc_last V _);have D5:Hid (∀u∈([.string yp,.int .i64 ty]:List Value),u.oneCell'=true):=(λu hu=>by simp at hu;rcases hu with rfl|rfl<;>rfl);have E3:Hid (m<=(V.alloc (.cells #[.string yp,.int .i64 ty] 144)).heap.size):=(by have:=j.le;show m<=_;simp;omega);clear hr E4 H s A4 I n;dsimp only)
    |(refine step_append_lies _ rfl (.tmp 23) (.tmp 26) 65 rfl m 144 i0 _ 2 24 Tryz.underlying65 F8 G8 G2 G9 rfl (by decide) (.slice qv k cv) k (lA xs) (by simp[Act.eval]) A7.out ⟨V.heap.size,0,none⟩ 1 1 [.string yp,.int .i64 ty] (by simp[Act.eval]) rfl D8.out D5.out (by decide) (by unfold maxLen;omega) (by omega) E3.out (V.heap.size+1) (by simp) ?_;intro g5 Q w5 A0 K E8 F2;obtain⟨C1,E9,D0⟩:=qX j.gr K (λi hi=>by have:=(O.out i hi).1;have:=j.ltq;have:=j.lt;omega) j.ltP j.ltT j.a.ps;have B4:w5.heap[q]?=some (.cells #[.string z,.int .i64 ((hd l).p:Int),.slice qv k cv,.slice none 0 0] 86):=D0 q _ 86 (λe=>by have:=(O.out q e.symm).1;have:=j.lt;omega) (by decide) j.blk;have E0:w5.heap[w.heap.size]?=some (.cells #[.string ⟨#[]⟩,.int .i64 0,.slice none 0 0,.slice none 0 0] 86):=D0 _ _ 86 (λe=>by have:=(O.out _ e.symm).1;have:=j.ltq;have:=j.lt;omega) (by decide) j.res;have F:Hid (FW w P T q m #[.string z,.int .i64 ((hd l).p:Int),.slice qv k cv,.slice none 0 0] o1 c1 d E w5):=⟨E0,B4,C1,j.ltq,j.ltP,j.ltT,HA.go C1 E9 j.a.ends (by have:=j.a.deep;omega),j.lt,by have h1:=K.size;simp at h1;have:=j.le;omega⟩;have D1:Hid (w5.ownsRow m 144 2 (.slice (some ⟨g5,0,none⟩) (k+1) Q) (k+1) (lA xs++[.string yp,.int .i64 ty])):=A0;have f5:=ea B4 2;have H1:=jc 2 B4;have H3:Hid (m<=g5):=(by rcases E8 with hh|hh;exact(O.out g5 hh).1;have:=j.le;show m<=g5;omega);clear A0 K E8 F2 C1 E9 D0 B4 E0))
   all_goals
    go_wp2_with(go_at_call 95;fail)
    obtain⟨W6,A5⟩:=aB (w5.setCell ⟨q,2,none⟩ (.slice (some ⟨g5,0,none⟩) (k+1) Q));have B2:Hid (FW w P T q m #[.string z,.int .i64 ((hd l).p:Int),.slice (some ⟨g5,0,none⟩) (k+1) Q,.slice none 0 0] o1 c1 d E W6):=by
     show FW _ _ _ _ _ _ _ _ _ _ _;rw[A5];exact F.set 2 _
    have D6:Hid (W6.ownsRow m 144 2 (.slice (some ⟨g5,0,none⟩) (k+1) Q) (k+1) (lA xs++[.string yp,.int .i64 ty])):=by
     show World.ownsRow _ _ _ _ _ _ _;rw[A5];exact(F.kset 2 _).row (by decide) D1.out (λi hi=>(D1.lt i hi).1)
    rw[<-A5];clear A5 F D1 A7 D8 D5 E3 O L Z;refine(Cv B2.a).mono ?_;rintro e w7 (⟨b1,C,rfl,H,s,Y,A⟩|⟨F3,G1,⟨a,rfl,ha⟩,s⟩)
    rotate_left
    ·refine⟨rfl,J.out _ _ (.inr ⟨3,(hd E).p,?_,⟨a,rfl,ha⟩,B2.gr.trans s⟩)⟩;rw[A6.out,<-HM.out,B7.out,kM,A2.out];show eT (wH _ (if(hd E).t=[44] then _ else eT (eC [41] E) _)) _=_;unfold eC;rw[if_neg F3,if_neg G1];rfl
    have F7:Hid (Td w P T q m d z ((hd l).p:Int) M l3 b1 w7):=by
     have C5:(xs++[(nm,ty)]).length=k+1:=by simp[HK.out]
     have BH:lA (xs++[(nm,ty)])=lA xs++[.string yp,.int .i64 ty]:=by rw[<-G7.out];simp[lA]
     refine⟨⟨xs++[(nm,ty)],E.tail,o1+3,c1-1,some ⟨g5,0,none⟩,Q,?_,?_,?_,?_,?_,?_⟩⟩
     ·rw[C5];exact B2.go s H Y (aL A)
     ·rw[C5,BH];exact(B2.kgo s).row (by decide) D6.out (λi hi=>(D6.lt i hi).1)
     ·rw[C5];have:=A8.out;have:=B5.out;omega
     ·have:=A8.out;have:=B5.out;omega
     ·rintro rfl;rw[B7.out,kM,A2.out];have N:(hd E).t=[41]:=C;show wH _ (if(hd E).t=[44] then _ else eT (eC [41] E) _)=_;unfold eC;rw[if_neg (by rw[N];decide),if_pos N];show wH _ (.ok (cc (pr nm ty) ce,E.tail))=_;unfold DN;rw[<-qH,cN,List.foldr_append];rfl
     ·rintro rfl;refine⟨f,?_,?_⟩
      ·rw[B7.out,kM,A2.out];have N:(hd E).t=[44]:=C;show wH _ (if(hd E).t=[44] then eT (kM f E.tail) _ else _)=_;rw[if_pos N,cN];cases kM f E.tail with
       |error e=>rfl
       |ok r=>obtain⟨g,l2⟩:=r;exact(qG _ (pr nm ty) g l2).symm
      ·have:=A8.out;have:=B5.out;omega
    have D3:Hid (ju P w7<ju P wr):=by
     show _<_;rw[F5.out,H.plen];have:=B5.out;omega
    clear C H s Y A;go_wp2;exact⟨⟨b1,rfl,F7.out⟩,D3.out⟩
theorem Ol:(Tryz.prog.info? 86).map (λi=>(i.zero,i.size,i.bytes))=some (some (.agg #[jT ⟨#[]⟩,jV 0,jS,jS]),4,72):=by kernel_rfl
def xG(w:jW)(P a:Nat)(r:R Tr)(e:Ending)(w':jW):Prop:=
 (∃t b v n cs,r= .ok (t,b)/\e=jR v/\w'.ownsRow w.heap.size 86 4 v n cs/\eX (Fr w.heap.size) w' t cs/\Gr P w w')\/(∃k p,r= .error (k,p)/\fQ k p e w'/\Gr P w w')
structure Om (w:jW) (P T:Nat) (l:List eD) (M:R Tr) (v:jU) (k:Nat) (wr:jW):Prop where
 at':∃xs ys lc o' c' f,k<=12/\wr.ownsRow w.heap.size 86 4 v k ys/\eX (λi=>w.heap.size<=i/\some i≠v.ownBlock) wr (chain xs) ys/\PS wr P T o' c' lc/\fL lc/\lc.length<=l.length/\
  M=wH xs (ja f k lc)/\lc.length+1<=f
 gr:Gr P w wr
theorem vI(w:World)(P T o c:Nat)(l:List eD)(h:At w P T o c 0 l):
  aA 33 #[.pointer (some ⟨P,0,none⟩)] w (xG w P T (ja (l.length+1) 0 l)):=by
 obtain⟨i0,C7,D3,D1,D4⟩:=info_parts Ol;have HA:=jI h;obtain⟨M,hM⟩:=aB (ja (l.length+1) 0 l);have B4:Hid (Om w P T l M (.slice none 0 0) 0 w):=by
  refine⟨⟨[],[],l,o,c,l.length+1,by omega,bj _ _ _ _,by rw[chain,eX],h.ps,h.ends,aD _,?_,aD _⟩,Gr.refl _ _⟩;rw[hM];cases ja (l.length+1) 0 l<;>rfl
 rw[<-hM];have A:Hid (∀e w',xG w P T M e w'->xG w P T M e w'):=λ_ _ h=>h;generalize hG:xG w P T M=G at*;clear A;have A:Hid (∀e w',xG w P T M e w'->G e w'):=λe w' h=>by rw[<-hG];exact h
 have h0:=GH;clear h hM hG;go_enter Tryz.func33,Tryz.ntmps33
 go_wp2_with fail
 go_loopw [3] (λv3 wr=>∃(q:Option Addr)(k c:Nat),v3= .slice q k c/\Hid (Om w P T l M (.slice q k c) k wr)) (λ_ wr=>ju P wr)
 case atStart=>exact⟨none,0,0,rfl,B4.out⟩
 case round=>
  clear B4;obtain⟨q,k,cq,rfl,HI⟩:=hrel;obtain⟨⟨xs,ys,d,o0,c0,f,D5,J,hx,hp,he,hl,B0,B3⟩,A1⟩:=HI.out;obtain⟨f,rfl⟩:∃f',f=f'+1:=⟨f-1,by omega⟩;have F:=jI B0;have C5:=jI hp.plen;have z:Hid (At wr P T o0 c0 0 d):=HA.go A1 hp he (by have:=HA.deep;omega);have A7:Hid (d.length+1<=f+1/\d.length<=l.length):=⟨B3,hl⟩;obtain⟨A5,C3,A2⟩:=j3 hx J A1;clear J hx hp he hl A1 HI B0 B3;obtain⟨y,hy,C8⟩:=fU (hd d).t;have HY:=jI hy;clear hy C8
  go_wp2_with(go_at_call 59;fail)
  refine(lI z.out y HY.out wr (aJ _ _)).mono ?_;rintro e w3 ⟨rfl,C⟩;have m:Gr P wr w3:=em C;obtain⟨A3,U,D,x⟩:=j4 (eX.kept (eJ.gr z.ps m) _ _ A5.out) ((eJ.gr (S:=λ_=>True) z.ps m).row (by decide) C3.out (λ_ _=>trivial)) (z.below C) (A2.trans m);clear C m A5 C3 A2;by_cases B:(hd d).k=3
  ·have bk:(((hd d).k:Int) !=3)=false:=by rw[B];rfl
   have s:=jI B;clear B;generalize (((hd d).k:Nat):Int)=kd at*;go_wp2;refine A.out _ _ (.inl ⟨chain xs,d,_,k,ys,?_,rfl,U.out,eX.mono (λ_ h _=>h.1) _ _ A3.out,x.out⟩)
   rw[F.out,ja,if_pos s.out,<-qH];rfl
  have bk:(((hd d).k:Int) !=3)=true:=by simp;omega
  have s:=jI B;clear B;generalize (((hd d).k:Nat):Int)=kd at*;by_cases V:k=12
  ·subst V
   go_wp2_with(go_at_call 60;fail)
   refine(kZ w3 P T o0 c0 (hd d) d.tail D.psc 4).mono ?_;rintro e x9 ⟨⟨a,rfl,ha⟩,C⟩;have D0:=jI ha;have C9:=jI (x.trans (em C));clear ha C;go_wp2;refine⟨rfl,A.out _ _ (.inr ⟨4,(hd d).p,?_,⟨a,rfl,D0.out⟩,C9.out⟩)⟩
   rw[F.out,ja,if_neg s.out,if_pos rfl];rfl
  have D2:((k:Int)==12)=false:=by simp;omega
  have v:=jI V;clear V
  go_wp2_with(go_at_call 61;fail)
  refine(ul 0 w3 P T o0 c0 d D.out).mono ?_;rintro e E (⟨t,l1,cs,o1,c1,hr,rfl,hx,hp,m⟩|⟨k1,p1,hr,⟨b,rfl,C⟩,m⟩)
  rotate_left
  ·refine⟨rfl,A.out _ _ (.inr ⟨k1,p1,?_,⟨b,rfl,C⟩,x.trans m⟩)⟩;rw[F.out,ja,if_neg s.out,if_neg v.out,hr];rfl
  obtain⟨y0,Q,s2,O,Z,N,W,Y,rfl⟩:=EA hx;obtain⟨C0,L⟩:=Bz hr z.ends;obtain⟨HR,C1,B5,C4,B7,D6⟩:=j6 hr hx (eX.kept (eJ.gr D.ps m) _ _ A3.out) hp (x.trans m) m.size;have H:Hid (fL l1/\l1.length<d.length):=⟨C0,L⟩;have I:Hid (∀i,(Value.slice q k cq).ownBlock=some i->w.heap.size<=i/\i<w3.heap.size):=λi hi=>U.lt i hi;have A4:Hid ((E.alloc (.cells #[.string y0,.int .i64 Q,.slice s2 O Z,.slice N W Y] 86)).ownsRow w.heap.size 86 4 (.slice q k cq) k ys):=((eJ.gr (S:=λ_=>True) D.ps m).row (by decide) U.out (λ_ _=>trivial)).alloc _;have A8:=jI (World.news_of_block (cs:=#[.string y0,.int .i64 Q,.slice s2 O Z,.slice N W Y]) (t:=86) (fr:=(0,0)) (heap_alloc_last E _));have B1:Hid (∀u∈([.string y0,.int .i64 Q,.slice s2 O Z,.slice N W Y]:List Value),u.oneCell'=true):=λu hu=>by simp at hu;rcases hu with rfl|rfl|rfl|rfl<;>rfl
  have A9:Hid (w.heap.size<=(E.alloc (.cells #[.string y0,.int .i64 Q,.slice s2 O Z,.slice N W Y] 86)).heap.size):=by show _<=_;have:=B7.size;simp;omega
  clear hr hx hp m C0 L D2 bk
  go_wp2_with(at_builtin;refine wpList_append_lies _ rfl _ _ 24 rfl w.heap.size 86 i0 _ 4 72 Tryz.underlying24 C7 D3 D1 D4 rfl (by decide) _ k _ rfl A4.out ⟨E.heap.size,0,none⟩ 1 1 [.string y0,.int .i64 Q,.slice s2 O Z,.slice N W Y] rfl rfl A8.out B1.out (by decide) (by unfold maxLen;omega) (by omega) A9.out (E.heap.size+1) (by simp) ?_)
  intro g5 K w5 n j B8 C2;obtain⟨A6,A0,B6⟩:=qX B7.out j (λi hi=>(I.out i hi).1) HA.ltP HA.ltT C4.out;have B2:Hid (eX (λi=>w.heap.size<=i/\some i≠(Value.slice (some ⟨g5,0,none⟩) (k+1) K).ownBlock) w5 (chain (xs++[t])) (ys++[.string y0,.int .i64 Q,.slice s2 O Z,.slice N W Y])):=by
   have hA:eX (λi=>w.heap.size<=i/\some i≠(Value.slice q k cq).ownBlock/\i<E.heap.size) E (chain xs) ys:=eX.mono (λi h hi=>⟨h.1,h.2,hi⟩) _ _ B5.out;have hB:eX (λi=>w.heap.size<=i/\some i≠(Value.slice q k cq).ownBlock/\i<E.heap.size) E (cc t ce) [.string y0,.int .i64 Q,.slice s2 O Z,.slice N W Y]:=eX.mono (λi h hi=>⟨by have:w3.heap.size<=i:=h;have:=x.size;omega,λe=>by have:=(I.out i e.symm).2;have:w3.heap.size<=i:=h;omega,hi⟩) _ _ C1.out;have hC:=wZ hB xs ys hA;refine eX.mono (λi h _=>⟨h.1,λe=>?_⟩) _ _ (eX.kept (B6.mono λb C=>C.2.1) _ _ hC);have e':i=g5:=by injection e
   rcases B8 with hh|hh
   ·exact h.2.1 (by rw[hh,e'])
   ·have:=h.2.2;omega
  have C6:Hid (Om w P T l M (.slice (some ⟨g5,0,none⟩) (k+1) K) (k+1) w5):=by
   refine⟨⟨xs++[t],_,l1,o1,c1,f,?_,n,B2.out,A0,H.out.1,?_,?_,?_⟩,A6⟩
   ·have:=v.out;omega
   ·have:=A7.out;have:=H.out.2;omega
   ·rw[F.out,ja,if_neg s.out,if_neg v.out,HR.out];show wH xs (eT (ja f (k+1) l1) _)=_;cases ja f (k+1) l1 with
    |error e=>rfl
    |ok r=>obtain⟨g,l2⟩:=r;exact(qG xs t g l2).symm
   ·have:=A7.out;have:=H.out.2;omega
  have B9:Hid (ju P w5<ju P wr):=by
   show _<_;rw[C5.out,A0.plen];exact H.out.2
  clear n j B8 C2 A6 A0 B6 B2 A8 B1 A9 A4 C1 B5;go_wp2;exact⟨⟨_,_,_,rfl,C6.out⟩,B9.out⟩
theorem MW(v:jU)(w:jW):(Instr.typeAssert (.iface 72 v) 20 72 true).run Tryz.prog w= .ok (.tuple #[v,.bool true]) w:=by kernel_rfl
theorem Am(w:jW):(binOp .eql 20 .nilIface .nilIface).run Tryz.prog w= .ok (.bool true) w:=by kernel_rfl
theorem Ci(v:jU)(w:jW):(binOp .eql 20 (.iface 72 v) .nilIface).run Tryz.prog w= .ok (.bool false) w:=by kernel_rfl
theorem Ao(p q:Addr)(w:jW):
  CallsD Tryz.prog 31 #[jQ (some p),jQ (some q)] .returning w λe a w'=>e=jR (.tuple #[])/\a= .returning/\w'=w:=by
 have h1:=Am;refine callsD_of_wpS Tryz.func31 rfl λb cs c=>?_;apply wpS_seq;apply wpS_region;simp[wpOpsS,go_sem,recoverD,c,Tryz.ntmps31,Exit.thenS]
 apply wpS_seq;apply wpS_seq;apply wpS_region;simp[wpOpsS,go_sem,Exit.thenS,h1]
 refine wpS_cond (t:=true) (by simp[Act.eval,Array.replicate]) ?_;simp only[if_true];refine wpS_of_wp (wp_ret ?_);cases b
 simp_all [bodyPostS,results,Tryz.results31,Exit.thenS]
theorem rK(b c a:Nat)(x y:jU)(w:jW)(h1:w.cell? (jA b)=some x)(h2:w.cell? (jA c)=some y)(d:w.frozen? (jA b)=false)(f:w.frozen? (jA c)=false)(g:b≠c):
  CallsD Tryz.prog 31 #[jP b,jP c] (.panicking [{v:= .iface 72 (jP a),recovered:=false}]) w λe h w'=>e=jR (.tuple #[])/\h= .panicking [{v:= .iface 72 (jP a),recovered:=true}]/\w'=(w.setCell (jA b) jS).setCell (jA c) (.iface 72 (jP a)):=by
 have i:=Ci;have j:=MW;refine callsD_of_wpS Tryz.func31 rfl λk cs l=>?_;apply wpS_seq;apply wpS_region;simp[wpOpsS,go_sem,recoverD,l,Tryz.ntmps31,Exit.thenS]
 apply wpS_seq;apply wpS_seq;apply wpS_region;simp[wpOpsS,go_sem,Exit.thenS,i]
 refine wpS_cond (t:=false) (by simp[Act.eval,Array.replicate]) ?_;simp only[bI,if_false];refine wpS_of_wp (wp_skip ?_);simp only[Exit.thenS];apply wpS_seq;apply wpS_region;simp[wpOpsS,go_sem,Exit.thenS,j]
 apply wpS_seq;apply wpS_seq;apply wpS_region;simp[wpOpsS,go_sem,Exit.thenS]
 refine wpS_cond (t:=false) (by simp[Act.eval,Array.replicate]) ?_;simp only[bI,if_false];refine wpS_of_wp (wp_skip ?_);simp only[Exit.thenS];apply wpS_region;simp[wpOpsS,go_sem,h1,h2,d,f,bodyPostS,results,Tryz.results31]
theorem wP{a:By}{k:Nat}{t:By}(h:kG a=some (k,t)):k<=2:=by
 unfold kG at h;split at h
 ·injection h with h;injection h with h _;omega
 ·split at h
  ·injection h with h;injection h with h _;split at h<;>omega
  ·obtain⟨m,b,c⟩:=bA.1 h;injection c with c _;omega
theorem wQ(n:Nat):∀(f:Nat)(a:By)(l r:List eD),a.length+1<=f->a.length<=1000000->(∀x∈l,x.k≠3/\x.t≠[]/\x.t.length<=1000000)->l.length<=1500->oZ n f a l= .ok r->fL r/\r.length<=1501
 |0,a,l,r,h1,h2,c,j,h=>by omega
 |f+1,a,l,r,h1,h2,c,j,h=>by
  rw[oZ]at h;split at h
  ·injection h with h;subst h;exact⟨⟨l,⟨3,[],n⟩,rfl,rfl,rfl,c⟩,by simp;omega⟩
  ·split at h
   ·cases h
   ·rename_i k t d;split at h
    ·cases h
    ·rename_i o;obtain⟨g,m⟩:=vJ d;have p:=wP d;have i:=g_ false (a.drop t.length);rw[bK]at i;refine wQ n f _ _ r (by omega) (by omega) (λx b=>?_) (by simp;omega) h;rcases bE.1 b with b|b
     ·exact c x b
     ·rw[a_]at b;subst b;exact⟨by show k≠3;omega,by show t≠[];intro e;rw[e]at g;simp at g,by show t.length<=_;omega⟩
theorem wR{s:By}{r:List eD}(h:qW s= .ok r)(a:s.length<=1000000):fL r/\r.length<=1501:=by
 have h1:=g_ false s;exact wQ s.length _ _ [] r (by omega) (by omega) (by simp) (by simp) h
def gK(s:By):Except (Int×Nat) Tr:=
 match qW s with
 | .error e=> .error e
 | .ok l=>match ja (l.length+1) 0 l with
  | .error e=> .error e
  | .ok (t,_)=> .ok t
def mo(w:jW)(r:Except (Int×Nat) Tr)(e:Ending)(w':jW):Prop:=
 match r with
 | .ok t=>(∃v n cs,e=jR (.tuple #[v,.nilIface])/\w'.ownsRow w.heap.size 86 4 v n cs/\eX (Fr w.heap.size) w' t cs)/\az w w'
 | .error (k,p)=>(∃a,e=jR (.tuple #[jS,.iface 72 (jP a)])/\w'.heap[a]?=some (jC #[jV k,jV (p:Int)] 139))/\az w w'
theorem oF.lt(h:oF w):14<=w.heap.size:=by
 obtain⟨c,d,a⟩:=h.rng;unfold World.var? at a;simp only[Lt,cJ]at a;rcases bG 13 w.heap.size with h1|h1
 ·omega
 ·rw[bH h1]at a;simp at a
theorem AH:∀(l:List eD)(j:Nat)(t:eD),l[j]?=some t->(zK l)[j*3]?=some (jV (t.k:Int))/\(zK l)[j*3+1]?=some (str t.t)/\(zK l)[j*3+2]?=some (jV (t.p:Int))
 |[],j,t,h=>by simp at h
 |x::l,0,t,h=>by
  simp at h;subst h;exact⟨rfl,rfl,rfl⟩
 |x::l,j+1,t,h=>by
  have a:=AH l j t (by simpa using h);have e:∀i,(zK (x::l))[i+3]?=(zK l)[i]?:=λi=>rfl;rw[show(j+1)*3=j*3+3 by omega,show j*3+3+1=j*3+1+3 by omega,show j*3+3+2=j*3+2+3 by omega,e,e,e];exact a
theorem QP{l:List eD}(h:w.ownsRow B 136 3 (jL (some (jA e)) l.length c) l.length (zK l)):PS (w.alloc (jC #[jL (some (jA e)) l.length c] 78)) w.heap.size e 0 c l:=by
 rcases h.2 with⟨h1,_⟩|⟨g,f,k,m,n,o,p,q,r,s⟩
 ·cases h1
 ·injection m with hv1 _ hv3;injection hv1 with hv1;injection hv1 with hv1;subst hv1;subst hv3;have u:e<w.heap.size:=(aC.1 o).1;refine⟨heap_alloc_last w _,p,by omega,λj t x=>?_⟩;have y:j<l.length:=(aK.1 x).1;obtain⟨a,b,d⟩:=AH l j t x;have hc:∀i v,i<l.length*3->(zK l)[i]?=some v->(w.alloc (jC #[jL (some (jA e)) l.length c] 78)).cell? (jB e (0+i))=some v:=λi v z m=>by
   rw[bQ];refine eo (ez o _) ?_;rw[<-s,dM z,Array.getElem?_toList]at m;exact m
  have h1:=hc (j*3) _ (by omega) a;have h2:=hc (j*3+1) _ (by omega) b;have A:=hc (j*3+2) _ (by omega) d;exact⟨h1,h2,A⟩
theorem rr{a b:jW}(h:Gr P a b)(c:B<=P)(d:B<=a.heap.size):Below B a b:=⟨h.os,h.tape,h.output,h.size,λk hk=>h.block k (by omega) (by intro e;injection e with e;omega)⟩
theorem NF(a:Array Value)(W:jW)(b c:Nat)(x y:jU)(d:a[2]?.getD undef=jP b)(e:a[3]?.getD undef=jP c)(h1:W.cell? (jA b)=some x)(h2:W.cell? (jA c)=some y):
  (results Tryz.f14 a).run Tryz.prog W= .ok (.tuple #[x,y]) W:=by
 simp[results,Tryz.results14,go_sem,d,e,h1,h2]
theorem uv(s:ByteArray)(w:jW)(b:oF w)(c:s.size<=1000000):aA 14 #[jT s] w (mo w (gK s.data.toList)):=by
 have d:∀(g:Fn)(first j:Array Value)(w:jW),(Instr.makeFunc g first j).run Tryz.prog w= .ok (.func g first j) w:=λ_ _ _ _=>rfl;obtain⟨W0,m⟩:=aB (((w.alloc (jC #[jS] 24)).alloc (jC #[.nilIface] 34)));have o:az w W0:=by
  rw[m];exact((aJ _ _).alloc (aD _) _).alloc (by simp) _
 have q:W0.heap.size=w.heap.size+2:=by rw[m];simp
 have r:W0.heap[w.heap.size]?=some (jC #[jS] 24):=by
  rw[m];exact ez (heap_alloc_last w _) _
 have u:W0.heap[w.heap.size+1]?=some (jC #[.nilIface] 34):=by
  rw[m];have:=heap_alloc_last (w.alloc (jC #[jS] 24)) (jC #[.nilIface] 34);simpa using this
 obtain⟨x,y,z,A,B,C⟩:=j6 (Kj s W0 (b.below o) c) o q r u b;have D:Hid (s.data.toList.length<=1000000):=by show _<=_;simpa using c
 obtain⟨E,F⟩:=aB s.data.toList;rw[<-F]at x D⊢;have H:Hid (∀e w',mo w (gK E) e w'->mo w (gK E) e w'):=λ_ _ h=>h;generalize I:mo w (gK E)=G at*;clear H;have H:Hid (∀e w',mo w (gK E) e w'->G e w'):=λe w' h=>by rw[<-I];exact h
 clear b c o q r u F I;have J:Hid (∀(k:Int)(p a:Nat)(W:jW),W.heap[a]?=some (jC #[jV k,jV (p:Int)] 139)->az W0 W->gK E= .error (k,p)->
   W.cell? (jA w.heap.size)=some jS/\W.cell? ⟨w.heap.size+1,0,none⟩=some .nilIface/\W.frozen? (jA w.heap.size)=false/\W.frozen? ⟨w.heap.size+1,0,none⟩=false/\
   ((W.setCell (jA w.heap.size) jS).setCell ⟨w.heap.size+1,0,none⟩ (.iface 72 (jP a))).cell? (jA w.heap.size)=some jS/\
   ((W.setCell (jA w.heap.size) jS).setCell ⟨w.heap.size+1,0,none⟩ (.iface 72 (jP a))).cell? ⟨w.heap.size+1,0,none⟩=some (.iface 72 (jP a))/\
   G (jR (.tuple #[jS,.iface 72 (jP a)])) ((W.setCell (jA w.heap.size) jS).setCell ⟨w.heap.size+1,0,none⟩ (.iface 72 (jP a)))):=λk p a W K L M=>by
  have N:=z.out;have O:W.heap[w.heap.size]?=some (jC #[jS] 24):=by rw[L.block _ (by omega)];exact A
  have b:W.heap[w.heap.size+1]?=some (jC #[.nilIface] 34):=by rw[L.block _ (by omega)];exact B
  have Q:a≠w.heap.size:=λe=>by
   rw[e,O]at K;injection K with K;injection K with _ h2;exact absurd h2 (by decide)
  have S:a≠w.heap.size+1:=λe=>by
   rw[e,b]at K;injection K with K;injection K with _ h2;exact absurd h2 (by decide)
  have T:=jc 0 O;have U:=jc 0 b;have V:(W.setCell (jA w.heap.size) jS).heap[w.heap.size]?=some (jC #[jS] 24):=aH _ _ _ _ _ _ O;have Y:(W.setCell (jA w.heap.size) jS).heap[w.heap.size+1]?=some (jC #[.nilIface] 34):=by
   rw[aG _ _ _ _ (by show w.heap.size+1≠w.heap.size;omega)];exact b
  have Z:((W.setCell (jA w.heap.size) jS).setCell ⟨w.heap.size+1,0,none⟩ (.iface 72 (jP a))).heap[w.heap.size]?=some (jC #[jS] 24):=by
   rw[aG _ _ _ _ (by show w.heap.size≠w.heap.size+1;omega)];exact V
  have d:((W.setCell (jA w.heap.size) jS).setCell ⟨w.heap.size+1,0,none⟩ (.iface 72 (jP a))).heap[w.heap.size+1]?=some (jC #[.iface 72 (jP a)] 34):=aH _ _ _ _ _ _ Y;refine⟨T,U,ea O 0,ea b 0,jc 0 Z,jc 0 d,H _ _ ?_⟩;rw[M];refine⟨⟨a,rfl,?_⟩,?_⟩
  ·rw[aG _ _ _ _ (by show a≠w.heap.size+1;exact S),aG _ _ _ _ (by show a≠w.heap.size;exact Q)];exact K
  ·exact((y.trans (L.mono (by omega))).setCell (p:=(jA w.heap.size)) (aD _) _).setCell (p:=⟨w.heap.size+1,0,none⟩) (by show w.heap.size<=w.heap.size+1;omega) _
 go_enter_defers Tryz.func14,Tryz.ntmps14
 go_wp2_with(go_at_call 32;fail)
 rw[<-m];clear m;refine x.mono ?_;rintro e w1 ⟨hc,g⟩;cases M:qW E with
 |error j=>
  obtain⟨k,p⟩:=j;rw[M]at hc;obtain⟨a,rfl,K⟩:=hc;have c:gK E= .error (k,p):=by unfold gK;rw[M]
  obtain⟨T,U,o,q,r,u,I⟩:=J k p a w1 K g c;refine bP (f:=31) (args:=#[jP w.heap.size,jQ (some ⟨w.heap.size+1,0,none⟩)]) (by simp) (by simp[go_sem]) ?_
  refine(rK w.heap.size (w.heap.size+1) a _ _ w1 T U o q (by omega)).mono ?_;rintro e F V ⟨rfl,rfl,rfl⟩;exact⟨_,NF _ _ w.heap.size (w.heap.size+1) _ _ rfl rfl r u,I⟩
 |ok l=>
  rw[M]at hc;obtain⟨v,rfl,m⟩:=hc;obtain⟨x,L⟩:=wR M D;obtain⟨T,cp,rfl,Q,S⟩:=m.form x.pos;obtain⟨j,V,D,A0,A1⟩:=j5 (QP m) g x L M;clear g m Q S x M;obtain⟨ln,g⟩:∃ln,l.length=ln:=⟨_,rfl⟩;have x:=jI g;rw[g]at j⊢;clear g L
  go_wp2_with(go_at_call 33;fail)
  obtain⟨Q,S⟩:=aB (w1.alloc (jC #[jL (some (jA T)) ln cp] 78));obtain⟨P,L⟩:=aB w1.heap.size;have N:=z.out;have g:=V.size;have x:Hid (PS Q P T 0 cp l):=by show PS _ _ _ _ _ _;rw[S,L];exact j
  have A2:Hid (az W0 Q):=by show Below _ _ _;rw[S];exact V.alloc g _
  have A3:Hid (W0.heap.size<=P/\P<Q.heap.size):=by show _/\_;rw[S,L];exact⟨g,by simp⟩
  rw[<-S,<-L];clear S L j V N g;have j:At Q P T 0 cp 0 l:=⟨C.below (y.trans (A2.mono (by have:=z.out;omega))),x,D,by have:=C.lt;have:=A3.out;have:=z.out;omega,by have:=A0.out;omega⟩;refine(vI Q P T 0 cp l j).mono ?_;rintro e V (⟨t,S,v,n,cs,M,rfl,m,L,g⟩|⟨k,p,M,⟨a,rfl,K⟩,g⟩)
  rotate_left
  ·have C:=A2.trans (rr g A3.out.1 A2.size);have c:gK E= .error (k,p):=by unfold gK;rw[A1.out];show(match ja (l.length+1) 0 l with| .error e=>_| .ok (t,_)=>_)=_;rw[M]
   obtain⟨T,U,o,q,r,u,I⟩:=J k p a V K C c;refine bP (f:=31) (args:=#[jP w.heap.size,jQ (some ⟨w.heap.size+1,0,none⟩)]) (by simp) (by simp[go_sem]) ?_
   refine(rK w.heap.size (w.heap.size+1) a _ _ V T U o q (by omega)).mono ?_;rintro e F D ⟨rfl,rfl,rfl⟩;exact⟨_,NF _ _ w.heap.size (w.heap.size+1) _ _ rfl rfl r u,I⟩
  obtain⟨x,cv,rfl⟩:=eh m;have C:=A2.trans (rr g A3.out.1 A2.size);have N:=z.out;have O:V.heap[w.heap.size]?=some (jC #[jS] 24):=by rw[C.block _ (by omega)];exact A
  have b:V.heap[w.heap.size+1]?=some (jC #[.nilIface] 34):=by rw[C.block _ (by omega)];exact B
  have T:=jc 0 O;have U:=jc 0 b;have o:=ea O 0;have q:=ea b 0;obtain⟨S,J,K,I,r,u⟩:=j6 C O b m L M;clear M m L g C O b N j;go_wp2;refine bP (f:=31) (args:=#[jP w.heap.size,jQ (some ⟨w.heap.size+1,0,none⟩)]) (by simp) (by simp[go_sem]) ?_
  refine(Ao (jA w.heap.size) ⟨w.heap.size+1,0,none⟩ _).mono ?_;rintro e F D ⟨rfl,rfl,rfl⟩;have Y:(V.setCell (jA w.heap.size) (jL x n cv)).heap[w.heap.size+1]?=some (jC #[.nilIface] 34):=by
   rw[aG _ _ _ _ (by show w.heap.size+1≠w.heap.size;omega)];exact K
  have Z:((V.setCell (jA w.heap.size) (jL x n cv)).setCell ⟨w.heap.size+1,0,none⟩ .nilIface).heap[w.heap.size]?=some (jC #[jL x n cv] 24):=by
   rw[aG _ _ _ _ (by show w.heap.size≠w.heap.size+1;omega)];exact aH _ _ _ _ _ _ J
  have d:((V.setCell (jA w.heap.size) (jL x n cv)).setCell ⟨w.heap.size+1,0,none⟩ .nilIface).heap[w.heap.size+1]?=some (jC #[.nilIface] 34):=aH _ _ _ _ _ _ Y;refine⟨_,NF _ _ w.heap.size (w.heap.size+1) _ _ rfl rfl (jc 0 Z) (jc 0 d),H _ _ ?_⟩;have c:gK E= .ok t:=by unfold gK;rw[A1.out];show(match ja (l.length+1) 0 l with| .error e=>_| .ok (t,_)=>_)=_;rw[u.out]
  rw[c];have N:=z.out;have A:=A2.size;have B:eJ (Fr Q.heap.size) V ((V.setCell (jA w.heap.size) (jL x n cv)).setCell ⟨w.heap.size+1,0,none⟩ .nilIface):=(eJ.set (by omega)).trans (eJ.set (by omega));refine⟨⟨_,n,cs,rfl,jd (B.row (by decide) I (λi T=>(I.lt i T).1)) (by omega),eX.old (eX.kept B _ _ r) (by omega)⟩,?_⟩;exact((y.trans (S.mono (by omega))).setCell (p:=(jA w.heap.size)) (aD _) _).setCell (p:=⟨w.heap.size+1,0,none⟩) (by show w.heap.size<=w.heap.size+1;omega) _
end Go.Proofs.YtnfhpdbbfejioaaGreatDoor
