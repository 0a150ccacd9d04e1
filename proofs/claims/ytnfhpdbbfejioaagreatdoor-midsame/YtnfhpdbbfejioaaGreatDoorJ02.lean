/- TE TG TH TI TJ TK TL UA UB UC UD -/
import Derived.Test.YtnfhpdbbfejioaaGreatDoorJ01
set_option linter.unusedVariables false
set_option linter.unusedSimpArgs false
set_option maxRecDepth 100000
set_option maxHeartbeats 16000000
namespace Go.Proofs.YtnfhpdbbfejioaaGreatDoor
open Go Go.RowKit
variable {w w' W:jW}{P f o c d e B z n m q i a:Nat}{v b:jU}{S:Nat->Prop}{nm:By}{g t u:Tr}{p:Int}{x:ByteArray}{ys:jE}{cs:Array Value}
theorem sq{l:List eD}(h:At w P f o c d l)(x:ByteArray)(g:(hd l).t≠x.data.toList)(W:jW)(i:az w W):
  aA 94 #[jP P,jT x] W λe w'=>e=jR (.bool false)/\az w w'/\Gr P W w':=by
 have j:PS W P f o c (hd l::l.tail):=by rw[<-h.ends.cons];exact h.ps.below i
 exact(mC W P f o c (hd l) l.tail j x g).mono λe w' ⟨a,b⟩=>⟨a,i.trans (b.mono i.size),em b⟩
theorem wL(n:Nat)(IH:Kk n)(d:Nat)(w:World)(P T o c:Nat)(l:List eD)(h:At w P T o c d l)(hk:d<=12\/(hd l).k=3)(hn:12*l.length+2<=n+1)(x:ByteArray)(F:(hd l).t=x.data.toList)(m:x=⟨#[45]⟩\/x=⟨#[33]⟩):
  aA 247 #[.pointer (some ⟨P,0,none⟩),.int .i64 (d:Int)] w (eB w P T (eW (n+1) 2 0 d .nil 0 l)):=by
 have U:str (hd l).t= .string x:=by rw[F]
 have HF:Hid (∀W,az w W->aA 59 #[.pointer (some ⟨P,0,none⟩)] W λe w'=>e= .returned (.agg #[.int .i64 ((hd l).k:Int),.string x,.int .i64 ((hd l).p:Int)])/\az w w'):=λW f=>lI h x U W f;have HB:Hid (aA 148 #[.pointer (some ⟨P,0,none⟩),.int .i64 (d:Int)] w λe w'=>e= .returned (.tuple #[])/\az w w'):=sX h hk;have HT:Hid (∀y,Hid (x=y)->∀W,az w W->aA 94 #[.pointer (some ⟨P,0,none⟩),.string y] W λe w'=>e= .returned (.bool true)/\PS w' P T (o+3) (c-1) l.tail/\Gr P w w'/\Gr P W w'):=λy U W f=>by rw[<-U.out];exact Ec h x F (by rcases m with h|h<;>rw[h]<;>decide) W f
 have A8:Hid (x=⟨#[33]⟩->∀W,az w W->aA 94 #[.pointer (some ⟨P,0,none⟩),.string ⟨#[45]⟩] W λe w'=>e= .returned (.bool false)/\az w w'/\Gr P W w'):=λe W f=>sq h ⟨#[45]⟩ (by rw[F,e];decide) W f;obtain⟨e1,e2,e3,e4⟩:=h.ends.tail (by rw[F];rcases m with h|h<;>rw[h]<;>decide);have A3:=h.deep;have HO:Hid (∀W,PS W P T (o+3) (c-1) l.tail->Gr P w W->aA 247 #[.pointer (some ⟨P,0,none⟩),.int .i64 (IntKind.i64.wrap ((d:Int)+1))] W (eB W P T (eW n 2 0 (d+1) .nil 0 l.tail))):=λW Y C=>by
  have:=IH (d+1) W P T (o+3) (c-1) l.tail ⟨h.env.gr C h.far,Y,e1,h.far,by omega⟩ (by omega);rw[show((d+1:Nat):Int)=IntKind.i64.wrap ((d:Int)+1) by rw[wN (by omega) (by omega)];omega]at this;exact this
 have hM:eW (n+1) 2 0 d .nil 0 l=eT (eW n 2 0 (d+1) .nil 0 l.tail) λy l1=> .ok (nd 4 (hd l).p 0 [] (hd l).t y .nil ce,l1):=by
  rw[eW];unfold l8;rw[if_neg (by omega)];show(if(hd l).t=[45]\/(hd l).t=[33] then _ else _)=_;rw[if_pos (by rw[F];rcases m with h|h<;>rw[h]<;>decide)]
 have B1:d<=100000:=by omega
 have A4:Hid (P<w.heap.size):=(aC.1 h.ps.own).1;have K:Hid (∀t B e w',eW n 2 0 (d+1) .nil 0 l.tail= .ok (t,B)->(∃v V Z,e= .returned v/\ej (Fr w.heap.size) w' (nd 4 (hd l).p 0 [] (hd l).t t .nil ce) v/\PS w' P T V Z B)->Gr P w w'->eB w P T (eW (n+1) 2 0 d .nil 0 l) e w'):=λt B e w' h1 h2 h3=>by
  rw[hM,h1];exact⟨h2,h3⟩
 have Q:Hid (∀k p e w',eW n 2 0 (d+1) .nil 0 l.tail= .error (k,p)->fQ k p e w'->Gr P w w'->eB w P T (eW (n+1) 2 0 d .nil 0 l) e w'):=λk p e w' h1 h2 h3=>by
  rw[hM,h1];exact⟨h2,h3⟩
 have A6:Hid ((hd l).t=x.data.toList):=F;have A0:Hid (Hid (x=⟨#[45]⟩)\/Hid (x=⟨#[33]⟩)):=m;clear h hk hn F m U e1 e2 e3 e4 A3 hM IH;go_enter Tryz.func247,Tryz.ntmps247
 go_wp2_with(go_at_call 148;fail)
 refine HB.out.mono ?_;rintro e w1 ⟨rfl,f⟩;have A5:Hid (az w w1):=f;clear f
 go_wp2_with(go_at_call 59;fail)
 refine(HF.out _ A5.out).mono ?_;rintro e w2 ⟨rfl,f⟩;have A:Hid (az w w2):=f;clear f
 go_wp2_with(go_at_call 94;fail)
 obtain⟨W2,s⟩:=aB (w2.alloc (.cells #[.int .i64 ((hd l).k:Int),.string x,.int .i64 ((hd l).p:Int)] 136));obtain⟨q,hq⟩:=aB w2.heap.size;have g:Hid (W2.heap[q]?=some (.cells #[.int .i64 ((hd l).k:Int),.string x,.int .i64 ((hd l).p:Int)] 136)):=by rw[s,hq];exact heap_alloc_last _ _
 have j:Hid (q≠P):=λe=>by have:=A.out.size;have:=A4.out;omega
 have u:Hid (az w W2):=by rw[s];exact A.out.alloc A.out.size _
 rw[<-s,<-hq];clear s hq A;rcases A0.out with E|E
 rotate_left;refine(A8.out E.out _ u.out).mono ?_;rintro e W3 ⟨rfl,f,C⟩;have I:Hid (W3.heap[q]?=_):=C.blk g.out j.out;have M:Hid (az w W3):=f;clear f C g u;have g:=I;have u:=M;clear I M
 go_wp2_with(go_at_call 94;fail)
 all_goals
  refine(HT.out _ E _ u.out).mono ?_;rintro e J ⟨rfl,Y,C,z⟩;have A7:Hid (J.drew.heap[q]?=some (.cells #[.int .i64 ((hd l).k:Int),.string x,.int .i64 ((hd l).p:Int)] 136)):=z.blk g.out j.out;have L:Hid (PS J.drew P T (o+3) (c-1) l.tail):=Y.below (aJ _ _).drew;have b:Hid (Gr P w J.drew):=C.trans (em (aJ _ _).drew);have A9:J.cell? ⟨q,1,none⟩=some (.string x):=by have:=z.blk g.out j.out;simp[World.cell?,this]
  have B2:J.cell? ⟨q,2,none⟩=some (.int .i64 ((hd l).p:Int)):=by have:=z.blk g.out j.out;simp[World.cell?,this]
  clear Y C z
  go_wp2_with fail
  go_region_with(go_at_call 247;refine(HO.out _ L.out b.out).mono ?_;intro e H r;rcases r.parts with⟨t,B,v,V,Z,O,rfl,G,N,i⟩|⟨k,p,O,⟨a,rfl,ha⟩,i⟩;rotate_left;exact⟨rfl,Q.out k p _ _ O ⟨a,rfl,ha⟩ (b.out.trans i)⟩;obtain⟨vb,rfl⟩:=fw.ptr (f_ n 2 0 (d+1) .nil 0 l.tail t B (by omega) (by omega) O) G;have HR:Hid (eW n 2 0 (d+1) .nil 0 l.tail= .ok (t,B)):=O;have D:H.heap[q]?=some (.cells #[.int .i64 ((hd l).k:Int),.string x,.int .i64 ((hd l).p:Int)] 136):=i.blk A7.out j.out;have A2:Hid (ej (Fr w.heap.size) H t (.pointer (some ⟨vb,0,none⟩))):=G.old b.out.size;have A1:Hid (PS H P T V Z B):=N;have S:Hid (Gr P w H):=b.out.trans i;have B3:H.cell? ⟨q,1,none⟩=some (.string x):=(by simp[World.cell?,D]);have B0:H.cell? ⟨q,2,none⟩=some (.int .i64 ((hd l).p:Int)):=(by simp[World.cell?,D]);clear G N i D r O)
  all_goals
   go_wp2;go_ret;exact K.out t B _ _ HR.out ⟨_,V,Z,rfl,Nt A6.out S.out.size A2.out,A1.out.below ((aJ _ _).alloc (aD _) _)⟩ (S.out.alloc _)
def qE(n d:Nat)(l:List eD):R Tr:=if(hd l).t=[41] then .ok (ce,l.tail) else eW n 7 0 d ce 0 l
def m9(w:jW)(P a:Nat)(r:R Tr)(e:Ending)(w':jW):Prop:=
 match r with
 | .ok (t,b)=>(∃v c d f,e=jR v/\w'.ownsRow w.heap.size 145 1 v c.length c/\ej (Fr w.heap.size) w' t (.tuple c.toArray)/\PS w' P a d f b)/\Gr P w w'
 | .error (k,p)=>fQ k p e w'/\Gr P w w'
theorem m9.parts{r:R Tr}{e:Ending}(h:m9 w P c r e w'):
  (∃t i v j l m,r= .ok (t,i)/\e=jR v/\w'.ownsRow w.heap.size 145 1 v j.length j/\ej (Fr w.heap.size) w' t (.tuple j.toArray)/\PS w' P c l m i/\Gr P w w')\/(∃k p,r= .error (k,p)/\fQ k p e w'/\Gr P w w'):=by
 match r,h with
 | .ok (t,i),⟨⟨v,j,l,m,a,b,d,f⟩,g⟩=>exact .inl ⟨t,i,v,j,l,m,rfl,a,b,d,f,g⟩
 | .error (k,p),⟨a,b⟩=>exact .inr ⟨k,p,rfl,a,b⟩
def Im(n:Nat):Prop:=∀(d:Nat)(w:jW)(P a o c:Nat)(l:List eD),At w P a o c (d+1) l->12*l.length+10<=n->aA 233 #[jP P,jV (d:Int)] w (m9 w P a (qE n d l))
theorem jd{l:jE}(h:w.ownsRow B e z v n l)(d:c<=B):w.ownsRow c e z v n l:=by
 refine⟨h.1,?_⟩;rcases h.2 with f|⟨g,i,j,a,b,r⟩
 ·exact .inl f
 ·exact .inr ⟨g,i,j,a,aP d b,r⟩
theorem lg(a:q<m)(b:Nat)(cs:Array Value)(t:TypeId)(c:Fr m b)(d:t=252\/t=145)(h:w.heap[b]?=some (.cells cs t)):(w.setCell (jB q i) v).heap[b]?=some (.cells cs t):=by
 rw[aG _ _ _ _ (by show b≠q;have:m<=b:=c;omega)];exact h
theorem y_{b:Nat}{c a n:Int}{d:By}{l r:Tr}{vl vr e:jU}{f:jE}(h:S b)(j:w.heap[b]?=some (jC #[jV c,jV a,jV n,str nm,str d,vl,vr,e] 252))(k:ej S w l vl)(m:ej S w r vr)(o:w.ownsRow B 145 1 e f.length f)(p:∀i,e.ownBlock=some i->S i)(q:ej S w g (.tuple f.toArray)):ej S w (nd c a n nm d l r g) (jP b):=by
 rw[ej];exact⟨b,vl,vr,e,f,h,rfl,j,k,m,jd o (aQ _),p,q⟩
theorem DK(n:Nat)(f:Im n)(d:Nat)(w:jW)(P j o c:Nat)(l:List eD)(h:At w P j o c d l)(m:12*l.length+1<=n+1)(hk:(hd l).k=0):
  aA 256 #[jP P,jV (d:Int)] w (eB w P j (eW (n+1) 4 0 d .nil 0 l)):=by
 obtain⟨y,r,s⟩:=fU (hd l).t;have u:Hid (aA 59 #[jP P] w λe w'=>e=jR (.agg #[jV 0,jT y,jV ((hd l).p:Int)])/\az w w'):=by
  have:=lI h y r w (aJ _ _);rw[hk]at this;exact this
 obtain⟨x,z,A,B⟩:=j4 h r m f;have C:Hid (eW (n+1) 4 0 d .nil 0 l=eT (im l) λnm D=>if(hd D).t=[40] then eT (qE n d D.tail) λg E=> .ok (nd 5 (hd l).p 0 nm [] .nil .nil g,E) else .ok (nd 2 (hd l).p 0 nm [] .nil .nil ce,D)):=by
  show _=_;rw[eW,if_neg (by omega),if_pos hk];congr 1
  funext nm D
  unfold qE;split
  ·split<;>rfl
  ·rfl
 have F:Hid (∀e w',eB w P j (eW (n+1) 4 0 d .nil 0 l) e w'->eB w P j (eW (n+1) 4 0 d .nil 0 l) e w'):=λ_ _ h=>h;generalize H:eB w P j (eW (n+1) 4 0 d .nil 0 l)=G at*;rw[<-H]at F;have F:Hid (∀e w',eB w P j (eW (n+1) 4 0 d .nil 0 l) e w'->G e w'):=λe w' h=>by rw[<-H];exact h
 clear h hk r s H m f;go_enter Tryz.func256,Tryz.ntmps256
 go_wp2_with(go_at_call 59;fail)
 refine u.mono ?_;rintro e w1 ⟨rfl,I⟩;have J:=jI I;clear I
 go_wp2_with(go_at_call 93;fail)
 obtain⟨W,K⟩:=aB ((w1.alloc (jC #[jV 0,jT y,jV ((hd l).p:Int)] 136)).alloc (jC #[jV 0,jV ((hd l).p:Int),jV 0,jT ⟨#[]⟩,jT ⟨#[]⟩,jQ none,jQ none,jS] 252));obtain⟨q,L⟩:=aB (w1.heap.size+1);have M:Hid (W.heap[q]?=some (jC #[jV 0,jV ((hd l).p:Int),jV 0,jT ⟨#[]⟩,jT ⟨#[]⟩,jQ none,jQ none,jS] 252)):=by
  show _=_;rw[K,L];have:=heap_alloc_last (w1.alloc (jC #[jV 0,jT y,jV ((hd l).p:Int)] 136)) (jC #[jV 0,jV ((hd l).p:Int),jV 0,jT ⟨#[]⟩,jT ⟨#[]⟩,jQ none,jQ none,jS] 252);simpa using this
 have N:Hid (w.heap.size<=q/\P<q/\j<q):=by
  show _/\_;have:=J.size;have:=x.ltP;have:=x.ltT;omega
 have O:Hid (az w W):=by
  show Below _ _ _;rw[K];exact(J.alloc J.size _).alloc (by simp;have:=J.size;omega) _
 rw[<-K,<-L];clear K L J;have Q:=x.below O;refine(yN Q).mono ?_;rintro e S (⟨T,rfl,U,V,Y,Z⟩|⟨k,T,⟨a,rfl,D⟩,V⟩)
 rotate_left
 ·refine⟨rfl,F _ _ ?_⟩;rw[C.out,T];exact⟨⟨a,rfl,D⟩,(em O).trans V⟩
 have E:=V.blk M (by have:=N.out;omega);have f:=ea E 0;have m:=ea E 3;have r:=jc 0 E;have s:=jc 3 E;obtain⟨u,H,J,K,L,A0⟩:=j6 E U ((em O).trans V) T Y Z;rw[z.out];clear E U V T M O Q Y Z
 go_wp2_with(go_at_call 94;fail)
 obtain⟨M,O⟩:=aB ((S.setCell (jA q) (jV 2)).setCell (jB q 3) (jT y));have Q:Hid (M.heap[q]?=some (jC #[jV 2,jV ((hd l).p:Int),jV 0,jT y,jT ⟨#[]⟩,jQ none,jQ none,jS] 252)):=by
  show _=_;rw[O];exact aH _ _ _ _ _ _ (aH _ _ _ _ _ _ u)
 have E:Hid (PS M P j (o+3) (c-1) l.tail):=by
  show PS _ _ _ _ _ _;rw[O];exact(H.set N.out.2.1 N.out.2.2).set N.out.2.1 N.out.2.2
 have S:Hid (Gr P w M):=by
  show Gr _ _ _;rw[O];exact(J.set N.out.1).set N.out.1
 rw[<-O];clear O u H J f m r s;have m:At M P j (o+3) (c-1) d l.tail:=x.go S E L (by have:=x.deep;have:=A0.out;omega);refine(iO m ⟨#[40]⟩ (by decide)).mono ?_;rintro e w4 (⟨T,rfl,U,V,Y,Z⟩|⟨T,rfl,I⟩)
 ·have s:=V.blk Q (by have:=N.out;omega);have u:=jI s;have H:=jI (S.trans V);have J:Hid (At w4 P j (o+3+3) (c-1-1) (d+1) l.tail.tail):=x.go H U Y (by have:=x.deep;have:=A0.out;omega);have O:=jI T;have L:Hid (12*l.tail.tail.length+10<=n):=by show _<=_;have:=A.out;have:=A0.out;omega
  clear m s T U V Y Z Q E S
  go_wp2_with(go_at_call 233;fail)
  refine(B d w4 P j _ _ l.tail.tail J L).mono ?_;intro e x A;rcases A.parts with⟨t,B,v,U,Y,Z,s,rfl,J,L,B,A1⟩|⟨k,p,s,⟨a,rfl,D⟩,A1⟩
  rotate_left
  ·refine⟨rfl,F _ _ ?_⟩;rw[C.out,K.out];show eB w P j (if(hd l.tail).t=[40] then _ else _) _ _;rw[if_pos O.out,s];exact⟨⟨a,rfl,D⟩,H.trans A1⟩
  have D:=A1.blk u (by have:=N.out;omega);have f:=ea D 0;have f:=ea D 7;have r:=jc 0 D;have r:=jc 7 D;obtain⟨f,r,A2,A3,A4,A5⟩:=j6 D B (H.trans A1) L J s;have A6:Hid (q<w4.heap.size):=(aC.1 u).1;obtain⟨A7,cv,rfl⟩:=eh J;clear A s J L B A1 D u;go_wp2;refine F _ _ ?_
  rw[C.out,K.out];show eB w P j (if(hd l.tail).t=[40] then _ else _) _ _;rw[if_pos O.out,A5.out];have A:∀(b:Nat)(cs:Array Value)(t:TypeId),Fr w4.heap.size b->t=252\/t=145->x.heap[b]?=some (.cells cs t)->((x.setCell (jA q) (jV 5)).setCell (jB q 7) (jL A7 U.length cv)).heap[b]?=some (.cells cs t):=λb cs t I s h=>lg A6 b cs t I s (lg A6 b cs t I s h);have J:=H.size;refine⟨⟨_,Y,Z,rfl,y_ (b:=q) (vl:=jQ none) (vr:=jQ none) N.out.1 (by rw[z.out];exact aH _ _ _ _ _ _ (aH _ _ _ _ _ _ f)) (gV _ _) (gV _ _) (xt A (jd A4 (aQ _)) (λi L=>(A4.lt i L).1)) (λi L=>aP J (A4.lt i L).1) ((ej.kept A _ _ A3).old J),(r.set N.out.2.1 N.out.2.2).set N.out.2.1 N.out.2.2⟩,(A2.set N.out.1).set N.out.1⟩
 ·have V:Gr P M w4:=em I;have u:Hid (w4.heap[q]?=some (jC #[jV 2,jV ((hd l).p:Int),jV 0,jT y,jT ⟨#[]⟩,jQ none,jQ none,jS] 252)):=V.blk Q (by have:=N.out;omega);obtain⟨H,B,O⟩:=j3 (S.trans V) (E.below I) T;clear m V I T Q S E;go_wp2;refine F _ _ ?_
  rw[C.out,K.out];show eB w P j (if(hd l.tail).t=[40] then _ else _) _ _;rw[if_neg O.out];exact⟨⟨_,_,_,rfl,oy (b:=q) N.out.1 (by rw[z.out];exact u) (gV _ _) (gV _ _),B⟩,H⟩
def Cm(n:Nat):Prop:=∀(d:Nat)(w:jW)(P a o c:Nat)(l:List eD),At w P a o c d l->12*l.length<=n->aA 207 #[jP P,jV (d:Int)] w (eB w P a (eW n 5 0 d .nil 0 l))
theorem Dx(n:Nat)(f:Cm n)(d:Nat)(w:jW)(P g o c:Nat)(l:List eD)(h:At w P g o c d l)(j:12*l.length+1<=n+1)(m:(hd l).k≠2)(r:(hd l).k≠0):
  aA 256 #[jP P,jV (d:Int)] w (eB w P g (eW (n+1) 4 0 d .nil 0 l)):=by
 obtain⟨y,s,u⟩:=fU (hd l).t;obtain⟨x,z,A,B⟩:=j4 (lI h y s w (aJ _ _)) h j f;have C:(((hd l).k:Int)==2)=false:=by simp;omega
 have D:(((hd l).k:Int)==0)=false:=by simp;omega
 have E:Hid (eW (n+1) 4 0 d .nil 0 l=if(hd l).t=[110,101,119] then eT (eW n 5 0 d .nil 0 l.tail) λy F=> .ok (nd 6 (hd l).p 0 [] [] y .nil ce,F)
   else if(hd l).t=[108,101,110] then eT (eW n 5 0 d .nil 0 l.tail) λy F=> .ok (nd 7 (hd l).p 0 [] [] y .nil ce,F)
   else if(hd l).t=[105,110,112,117,116] then eT (eC [40] l.tail) λ_ F=>eT (eC [41] F) λ_ H=> .ok (nd 9 (hd l).p 0 [] [] .nil .nil ce,H)
   else eW n 5 0 d .nil 0 l):=by
  show _=_;rw[eW,if_neg m,if_neg r]
 have I:Hid (∀e w',eB w P g (eW (n+1) 4 0 d .nil 0 l) e w'->eB w P g (eW (n+1) 4 0 d .nil 0 l) e w'):=λ_ _ h=>h;generalize J:eB w P g (eW (n+1) 4 0 d .nil 0 l)=G at*;clear I;have I:Hid (∀e w',eB w P g (eW (n+1) 4 0 d .nil 0 l) e w'->G e w'):=λe w' h=>by rw[<-J];exact h
 clear h m r s u J j f;go_enter Tryz.func256,Tryz.ntmps256
 go_wp2_with(go_at_call 59;fail)
 refine x.mono ?_;rintro e w1 ⟨rfl,K⟩;have L:=jI K;clear K
 go_wp2_with(go_at_call 94;fail)
 obtain⟨W,M⟩:=aB ((w1.alloc (jC #[jV ((hd l).k:Int),jT y,jV ((hd l).p:Int)] 136)).alloc (jC #[jV 0,jV ((hd l).p:Int),jV 0,jT ⟨#[]⟩,jT ⟨#[]⟩,jQ none,jQ none,jS] 252));obtain⟨q,N⟩:=aB (w1.heap.size+1);have O:Hid (W.heap[q]?=some (jC #[jV 0,jV ((hd l).p:Int),jV 0,jT ⟨#[]⟩,jT ⟨#[]⟩,jQ none,jQ none,jS] 252)):=by
  show _=_;rw[M,N];have:=heap_alloc_last (w1.alloc (jC #[jV ((hd l).k:Int),jT y,jV ((hd l).p:Int)] 136)) (jC #[jV 0,jV ((hd l).p:Int),jV 0,jT ⟨#[]⟩,jT ⟨#[]⟩,jQ none,jQ none,jS] 252);simpa using this
 have Q:Hid (w.heap.size<=q/\P<q/\g<q):=by
  show _/\_;have:=L.size;have:=z.ltP;have:=z.ltT;omega
 have S:Hid (az w W):=by
  show Below _ _ _;rw[M];exact(L.alloc L.size _).alloc (by simp;have:=L.size;omega) _
 rw[<-M,<-N];clear M N L;have T:=z.below S;refine(iO T ⟨#[110,101,119]⟩ (by decide)).mono ?_;rintro e U (⟨V,rfl,Y,Z,C,D⟩|⟨V,rfl,K⟩)
 ·have F:Hid (U.heap[q]?=some (jC #[jV 0,jV ((hd l).p:Int),jV 0,jT ⟨#[]⟩,jT ⟨#[]⟩,jQ none,jQ none,jS] 252)):=Z.blk O (by have:=Q.out;omega);have H:=jI ((em S).trans Z);have f:Hid (At U P g (o+3) (c-1) d l.tail):=z.go H Y C (by have:=z.deep;omega);have j:=jI V;have r:Hid (12*l.tail.length<=n):=by show _<=_;have:=A.out;omega
  clear T V Y Z C D O S
  go_wp2_with(go_at_call 207;fail)
  refine(B d U P g _ _ l.tail f r).mono ?_;intro e w5 s;rcases s.parts with⟨t,u,v,x,J,L,rfl,M,N,A0⟩|⟨k,p,L,⟨a,rfl,A1⟩,A0⟩
  rotate_left
  ·refine⟨rfl,I _ _ ?_⟩;rw[E.out,if_pos j.out,L];exact⟨⟨a,rfl,A1⟩,H.trans A0⟩
  obtain⟨A2,rfl⟩:=fw.ptr (f_ n 5 0 d .nil 0 l.tail t u (by omega) (by omega) L) M;have A3:=A0.blk F (by have:=Q.out;omega);have A4:=ea A3 0;have A5:=ea A3 5;have A6:=jc 0 A3;have A7:=jc 5 A3;obtain⟨A8,A9,B0,B1,B2⟩:=j5 A3 N (H.trans A0) M L;have B3:Hid (q<U.heap.size):=(aC.1 F).1;clear s L M N A0 A3 F;go_wp2;refine I _ _ ?_
  rw[E.out,if_pos j.out,B2.out];have m:∀(b:Nat)(cs:Array Value)(t:TypeId),Fr U.heap.size b->t=252\/t=145->w5.heap[b]?=some (.cells cs t)->((w5.setCell (jA q) (jV 6)).setCell (jB q 5) (jP A2)).heap[b]?=some (.cells cs t):=λb cs t K B4 h=>lg B3 b cs t K B4 (lg B3 b cs t K B4 h);refine⟨⟨_,x,J,rfl,oy (b:=q) Q.out.1 (aH _ _ _ _ _ _ (aH _ _ _ _ _ _ A8)) ((ej.kept m _ _ B1).old H.size) (gV _ _),(A9.set Q.out.2.1 Q.out.2.2).set Q.out.2.1 Q.out.2.2⟩,(B0.set Q.out.1).set Q.out.1⟩
 have B5:Hid (U.heap[q]?=some (jC #[jV 0,jV ((hd l).p:Int),jV 0,jT ⟨#[]⟩,jT ⟨#[]⟩,jQ none,jQ none,jS] 252)):=(em (P:=P) K).blk O (by have:=Q.out;omega);have U:=jI (S.trans (K.mono S.size));have B6:=jI V;clear T V K O S
 go_wp2_with(go_at_call 94;fail)
 have O:=z.below U;refine(iO O ⟨#[108,101,110]⟩ (by decide)).mono ?_;rintro e S (⟨V,rfl,Y,Z,C,D⟩|⟨V,rfl,K⟩)
 ·have F:Hid (S.heap[q]?=some (jC #[jV 0,jV ((hd l).p:Int),jV 0,jT ⟨#[]⟩,jT ⟨#[]⟩,jQ none,jQ none,jS] 252)):=Z.blk B5 (by have:=Q.out;omega);have H:=jI ((em U).trans Z);have f:Hid (At S P g (o+3) (c-1) d l.tail):=z.go H Y C (by have:=z.deep;omega);have j:=jI V;have r:Hid (12*l.tail.length<=n):=by show _<=_;have:=A.out;omega
  clear O V Y Z C D B5 U
  go_wp2_with(go_at_call 207;fail)
  refine(B d S P g _ _ l.tail f r).mono ?_;intro e w5 s;rcases s.parts with⟨t,u,v,x,J,L,rfl,M,N,A0⟩|⟨k,p,L,⟨a,rfl,A1⟩,A0⟩
  rotate_left
  ·refine⟨rfl,I _ _ ?_⟩;rw[E.out,if_neg B6.out,if_pos j.out,L];exact⟨⟨a,rfl,A1⟩,H.trans A0⟩
  obtain⟨A2,rfl⟩:=fw.ptr (f_ n 5 0 d .nil 0 l.tail t u (by omega) (by omega) L) M;have A3:=A0.blk F (by have:=Q.out;omega);have A4:=ea A3 0;have A5:=ea A3 5;have A6:=jc 0 A3;have A7:=jc 5 A3;obtain⟨A8,A9,B0,B1,B2⟩:=j5 A3 N (H.trans A0) M L;have B3:Hid (q<S.heap.size):=(aC.1 F).1;clear s L M N A0 A3 F;go_wp2;refine I _ _ ?_
  rw[E.out,if_neg B6.out,if_pos j.out,B2.out];have m:∀(b:Nat)(cs:Array Value)(t:TypeId),Fr S.heap.size b->t=252\/t=145->w5.heap[b]?=some (.cells cs t)->((w5.setCell (jA q) (jV 7)).setCell (jB q 5) (jP A2)).heap[b]?=some (.cells cs t):=λb cs t K B4 h=>lg B3 b cs t K B4 (lg B3 b cs t K B4 h);refine⟨⟨_,x,J,rfl,oy (b:=q) Q.out.1 (aH _ _ _ _ _ _ (aH _ _ _ _ _ _ A8)) ((ej.kept m _ _ B1).old H.size) (gV _ _),(A9.set Q.out.2.1 Q.out.2.2).set Q.out.2.1 Q.out.2.2⟩,(B0.set Q.out.1).set Q.out.1⟩
 have T:Hid (S.heap[q]?=some (jC #[jV 0,jV ((hd l).p:Int),jV 0,jT ⟨#[]⟩,jT ⟨#[]⟩,jQ none,jQ none,jS] 252)):=(em (P:=P) K).blk B5 (by have:=Q.out;omega);have m:=jI (U.trans (K.mono U.size));have f:=jI V;clear O V K B5 U
 go_wp2_with(go_at_call 94;fail)
 have S:=z.below m;refine(iO S ⟨#[105,110,112,117,116]⟩ (by decide)).mono ?_;rintro e U (⟨V,rfl,Y,Z,C,D⟩|⟨V,rfl,K⟩)
 ·have O:=Z.blk T (by have:=Q.out;omega);have A4:=ea O 0;have A6:=jc 0 O;obtain⟨F,H,B7,B8,r,j⟩:=j6 O ((em m).trans Z) Y C D V;clear S O V Y Z C D T m
  go_wp2_with(go_at_call 92;fail)
  obtain⟨O,B9⟩:=aB (U.setCell (jA q) (jV 9));have A8:Hid (O.heap[q]?=some (jC #[jV 9,jV ((hd l).p:Int),jV 0,jT ⟨#[]⟩,jT ⟨#[]⟩,jQ none,jQ none,jS] 252)):=by
   show _=_;rw[B9];exact aH _ _ _ _ _ _ F
  have A9:Hid (PS O P g (o+3) (c-1) l.tail):=by
   show PS _ _ _ _ _ _;rw[B9];exact B7.set Q.out.2.1 Q.out.2.2
  have B0:Hid (Gr P w O):=by
   show Gr _ _ _;rw[B9];exact H.set Q.out.1
  rw[<-B9];clear B9 F B7 H A4 A6;have F:At O P g (o+3) (c-1) d l.tail:=z.go B0 A9 B8 (by have:=z.deep;have:=r.out;omega);refine(jY F ⟨#[40]⟩ (by decide)).mono ?_;rintro e H (⟨V,rfl,Y,Z,C,D⟩|⟨V,⟨a,rfl,A1⟩,Z⟩)
  rotate_left
  ·refine⟨rfl,I _ _ ?_⟩;rw[E.out,if_neg B6.out,if_neg f.out,if_pos j.out];have O:=V;rw[O];exact⟨⟨a,rfl,A1⟩,B0.trans Z⟩
  have C0:Hid (H.heap[q]?=some (jC #[jV 9,jV ((hd l).p:Int),jV 0,jT ⟨#[]⟩,jT ⟨#[]⟩,jQ none,jQ none,jS] 252)):=Z.blk A8 (by have:=Q.out;omega);have C1:=jI (B0.trans Z);have C2:Hid (At H P g (o+3+3) (c-1-1) d l.tail.tail):=z.go C1 Y C (by have:=z.deep;have:=r.out;omega);have r:=jI V;clear F V Y Z C D A8 A9 B0
  go_wp2_with(go_at_call 92;fail)
  refine(jY C2 ⟨#[41]⟩ (by decide)).mono ?_;rintro e H (⟨V,rfl,Y,Z,C,D⟩|⟨V,⟨a,rfl,A1⟩,Z⟩)
  rotate_left
  ·refine⟨rfl,I _ _ ?_⟩;rw[E.out,if_neg B6.out,if_neg f.out,if_pos j.out,r.out];have O:=V;show eB w P g (eT (eC [41] l.tail.tail) _) _ _;rw[O];exact⟨⟨a,rfl,A1⟩,C1.trans Z⟩
  have F:Hid (H.heap[q]?=some (jC #[jV 9,jV ((hd l).p:Int),jV 0,jT ⟨#[]⟩,jT ⟨#[]⟩,jQ none,jQ none,jS] 252)):=Z.blk C0 (by have:=Q.out;omega);obtain⟨O,H,C3⟩:=j3 (C1.trans Z) Y V;clear V Y Z C D C0 C1 C2;go_wp2;refine I _ _ ?_
  rw[E.out,if_neg B6.out,if_neg f.out,if_pos j.out,r.out];show eB w P g (eT (eC [41] l.tail.tail) _) _ _;rw[C3.out];exact⟨⟨_,_,_,rfl,oy (b:=q) Q.out.1 F (gV _ _) (gV _ _),H⟩,O⟩
 have Q:=jI (m.trans (K.mono m.size));have Y:=jI V;clear S V K T m
 go_wp2_with(go_at_call 207;fail)
 refine(B d U P g _ _ l (z.below Q) (by have:=A.out;omega)).mono ?_;intro e w5 s;have Z:eB w P g (eW (n+1) 4 0 d .nil 0 l) e w5:=by
  rw[E.out,if_neg B6.out,if_neg f.out,if_neg Y.out];exact eB.back (em Q) s
 rcases s.parts with⟨t,u,v,x,J,L,rfl,M,N,A0⟩|⟨k,p,L,⟨a,rfl,A1⟩,A0⟩
 rotate_left
 ·exact⟨rfl,I _ _ Z⟩
 have C:=jI Z;clear s Z L M N A0;go_wp2;exact I _ _ C
def FN(n:Nat):Prop:=∀(d:Nat)(w:jW)(P a o c:Nat)(l:List eD),At w P a o c d l->12*l.length+1<=n->aA 256 #[jP P,jV (d:Int)] w (eB w P a (eW n 4 0 d .nil 0 l))
def OL(n:Nat):Prop:=∀m,m<=n->∀(d:Nat)(w:jW)(P a o c:Nat)(l:List eD),At w P a o c (d+1) l->12*l.length+10<=m->aA 234 #[jP P,jV (d:Int)] w (eB w P a (eW m 6 0 d .nil 0 l))
def ju(P:Nat)(w:jW):Nat:=
 match w.cell? ⟨P,0,none⟩ with
 |some (.slice _ n _)=>n
 |_=>0
theorem PS.plen{l:List eD}(h:PS w P a o c l):ju P w=l.length:=by
 unfold Go.Proofs.YtnfhpdbbfejioaaGreatDoor.ju;rw[jc 0 h.own];rfl
structure Rt (n d:Nat) (w:jW) (P T q:Nat) (p:Nat) (l:List eD) (M:R Tr) (tc:Array Value) (v:jU) (wr:jW):Prop where
 at':∃f t lc o' c',eW f 3 0 d t p lc=M/\12*lc.length<=f/\f<=n/\fw t/\ej (Fr w.heap.size) wr t v/\PS wr P T o' c' lc/\fL lc/\lc.length<=l.length
 tok:wr.heap[q]?=some (.cells tc 136)
 gr:Gr P w wr
theorem FO{z:jU}(a:S w.heap.size)(h:ej S w t v)(g:ej S w u z):ej S (w.alloc (jC #[jV 8,jV p,jV 0,jT ⟨#[]⟩,jT ⟨#[]⟩,v,z,jS] 252)) (nd 8 p 0 [] [] t u ce) (jP w.heap.size):=sW a h g
theorem FP(n:Nat)(IL:FN n)(II:OL n)(d:Nat)(w:World)(P T o c:Nat)(l:List eD)(h:At w P T o c d l)(hk:d<=12\/(hd l).k=3)(hn:12*l.length+2<=n+1)(h1:(hd l).t≠[45])(h2:(hd l).t≠[33]):
  aA 247 #[.pointer (some ⟨P,0,none⟩),.int .i64 (d:Int)] w (eB w P T (eW (n+1) 2 0 d .nil 0 l)):=by
 obtain⟨y,hy,D7⟩:=fU (hd l).t;have HF:Hid (∀W,az w W->aA 59 #[.pointer (some ⟨P,0,none⟩)] W λe w'=>e= .returned (.agg #[.int .i64 ((hd l).k:Int),.string y,.int .i64 ((hd l).p:Int)])/\az w w'):=λW g=>lI h y hy W g;have HB:=jI (sX h hk);have A8:Hid (∀W,az w W->aA 94 #[.pointer (some ⟨P,0,none⟩),.string ⟨#[45]⟩] W λe w'=>e= .returned (.bool false)/\az w w'/\Gr P W w'):=λW g=>sq h ⟨#[45]⟩ h1 W g;have C6:Hid (∀W,az w W->aA 94 #[.pointer (some ⟨P,0,none⟩),.string ⟨#[33]⟩] W λe w'=>e= .returned (.bool false)/\az w w'/\Gr P W w'):=λW g=>sq h ⟨#[33]⟩ h2 W g;obtain⟨HA,HN,D8,E3⟩:=j4 h hn IL II;have HM:Hid (eW (n+1) 2 0 d .nil 0 l=eT (eW n 4 0 d .nil 0 l) λy K=>eW n 3 0 d y (hd l).p K):=by
  show _=_;rw[eW];unfold l8;rw[if_neg (by omega)];show(if(hd l).t=[45]\/(hd l).t=[33] then _ else _)=_;rw[if_neg (λe=>e.elim h1 h2)]
 have s:Hid (∀e w',eB w P T (eW (n+1) 2 0 d .nil 0 l) e w'->eB w P T (eW (n+1) 2 0 d .nil 0 l) e w'):=λ_ _ h=>h;generalize hG:eB w P T (eW (n+1) 2 0 d .nil 0 l)=G at*;clear s;have s:Hid (∀e w',eB w P T (eW (n+1) 2 0 d .nil 0 l) e w'->G e w'):=λe w' h=>by rw[<-hG];exact h
 clear h hk hn hy D7 h1 h2 IL II hG;go_enter Tryz.func247,Tryz.ntmps247
 go_wp2_with(go_at_call 148;fail)
 refine HB.mono ?_;rintro e w1 ⟨rfl,g⟩;have D4:=jI g;clear g
 go_wp2_with(go_at_call 59;fail)
 refine(HF.out _ D4.out).mono ?_;rintro e w2 ⟨rfl,g⟩;have H:=jI g;clear g
 go_wp2_with(go_at_call 94;fail)
 obtain⟨U,O⟩:∃U:Array Value,U=#[.int .i64 ((hd l).k:Int),.string y,.int .i64 ((hd l).p:Int)]:=⟨_,rfl⟩;have B9:Hid (U[2]?=some (.int .i64 ((hd l).p:Int))):=by show _=_;rw[O];rfl
 obtain⟨W2,I⟩:=aB (w2.alloc (.cells #[.int .i64 ((hd l).k:Int),.string y,.int .i64 ((hd l).p:Int)] 136));obtain⟨q,hq⟩:=aB w2.heap.size;have D0:Hid (W2.heap[q]?=some (.cells U 136)):=by rw[I,hq,O];exact heap_alloc_last _ _
 have u:Hid (q≠P):=λe=>by have:=H.size;have:=HA.ltP;omega
 have A9:Hid (az w W2):=by rw[I];exact H.alloc H.size _
 rw[<-I,<-hq];clear I hq H O;refine(A8.out _ A9.out).mono ?_;rintro e W3 ⟨rfl,g,A⟩;have B3:=jI (A.blk D0.out u.out);have B1:=jI g;clear g A D0 A9
 go_wp2_with(go_at_call 94;fail)
 refine(C6.out _ B1.out).mono ?_;rintro e W4 ⟨rfl,g,A⟩;have D1:=jI (A.blk B3.out u.out);have x:=jI g;clear g A B3 B1
 go_wp2_with(go_at_call 256;fail)
 refine(D8.out d W4 P T _ _ l (HA.below x.out) (by have:=HN.out;omega)).mono ?_;intro e w5 b;rcases b.parts with⟨t,l',v,o',c',m,rfl,A1,B7,z⟩|⟨k,p,m,⟨a,rfl,ha⟩,z⟩
 rotate_left
 ·refine⟨rfl,s.out _ _ ?_⟩;rw[HM.out,m];exact⟨⟨a,rfl,ha⟩,(em x.out).trans z⟩
 have A2:=f_ n 4 0 d .nil 0 l t l' (by omega) (by omega) m;obtain⟨vb,rfl⟩:=fw.ptr A2 A1;obtain⟨M,S⟩:=aB (eW n 3 0 d t (hd l).p l');obtain⟨C7,C9,_⟩:=fj n 4 0 d .nil 0 l t l' (λh=>by omega) HA.ends m;have C3:Hid (Rt n d w P T q (hd l).p l M U (.pointer (some ⟨vb,0,none⟩)) w5):=
  ⟨⟨n,t,l',o',c',S.symm,by have:=HN.out;omega,aD _,A2,A1.old x.size,B7,C7,C9⟩,z.blk D1.out u.out,(em x.out).trans z⟩
 have B6:Hid (eW (n+1) 2 0 d .nil 0 l=M):=by
  show _=_;rw[HM.out,m,S];rfl
 clear b m A1 B7 z S C7 C9 A2 D1 x HM
 go_wp2_with fail
 go_loopw [6] (λv wr=>∃vb:Nat,v= .pointer (some ⟨vb,0,none⟩)/\Hid (Rt n d w P T q (hd l).p l M U (.pointer (some ⟨vb,0,none⟩)) wr)) (λ_ wr=>ju P wr)
 case atStart=>exact⟨vb,rfl,C3.out⟩
 case round=>
  obtain⟨b0,rfl,HI⟩:=hrel;obtain⟨⟨f,t0,B,o0,c0,C1,C2,A6,J,B5,N,Q,B4⟩,L,A4⟩:=HI.out;obtain⟨f,rfl⟩:∃f',f=f'+1:=⟨f-1,by have:=Q.pos;omega⟩;have A3:=jI C1;have D3:=jI N.plen;have i:Hid (At wr P T o0 c0 d B):=HA.go A4 N Q (by have:=HA.deep;omega);have r:Hid (12*B.length<=f+1/\f+1<=n/\B.length<=l.length):=⟨C2,A6,B4⟩;obtain⟨B0,E5,D2,C⟩:=j4 B5 J L A4;clear C1 C2 A6 J B5 N Q B4 L A4 HI C3
  go_wp2_with(go_at_call 94;fail)
  refine(iO i.out ⟨#[91]⟩ (by decide)).mono ?_;rintro e w6 (⟨hv,rfl,hp,A,he,A7⟩|⟨hv,rfl,g⟩)
  rotate_left
  ·obtain⟨Y,D5,E1,E⟩:=j4 (jh i.ps (em g) B0.out) (i.ps.below g) (C.trans (em g)) hv;clear g hv;go_wp2;refine s.out _ _ ?_
   rw[B6.out,<-A3.out,eW,if_neg E.out];exact⟨⟨_,_,_,rfl,Y.out,D5.out⟩,E1.out⟩
  have Z:=A.blk D2.out u.out;have C4:=jI Z;have E7:=eo Z B9.out;have Y:=jI (jh i.ps (A.trans (em (aJ _ _).drew)) B0.out);have D:=jI (A.trans (em (aJ _ _).drew));have F:Hid (At w6.drew P T (o0+3) (c0-1) (d+1) B.tail):=i.go D.out (hp.below (aJ _ _).drew) he (by have:=i.deep;omega);have E:=jI hv;have E0:Hid (12*B.tail.length+10<=f):=by show _<=_;have:=r.out;omega
  have V:=jI A7;clear Z hv hp A he A7
  go_wp2_with fail
  go_region_with(go_at_call 234;refine(E3.out f (by have:=r.out;omega) d _ P T _ _ B.tail F.out E0.out).mono ?_;intro e w7 b;rcases b.parts with⟨t1,K,v1,o1,c1,m,rfl,A5,C8,j⟩|⟨k,p,m,⟨a,rfl,ha⟩,j⟩;rotate_left;exact(by refine⟨rfl,s.out _ _ ?_⟩;rw[B6.out,<-A3.out,eW,if_pos E.out,m];exact⟨⟨a,rfl,ha⟩,C.trans (D.trans j)⟩);obtain⟨D6,rfl⟩:=fw.ptr (f_ f 6 0 d .nil 0 B.tail t1 K (by omega) (by omega) m) A5;have A0:=j.blk C4.out u.out;have E6:w7.cell? ⟨q,2,none⟩=some (.int .i64 ((hd l).p:Int)):=eo A0 B9.out;have C5:Hid (w7.heap[q]?=some (.cells U 136)):=A0;have HR:Hid (eW f 6 0 d .nil 0 B.tail= .ok (t1,K)):=m;have E4:Hid (ej (Fr w.heap.size) w7 t1 (.pointer (some ⟨D6,0,none⟩))):=A5.old (C.trans D.out).size;have D9:Hid (ej (Fr w.heap.size) w7 t0 (.pointer (some ⟨b0,0,none⟩))):=jh F.ps j Y.out;have B2:Hid (PS w7 P T o1 c1 K):=C8;have C0:Hid (Gr P w w7):=C.trans (D.trans j);clear b m A5 C8 j A0)
  all_goals
   go_wp2;refine⟨⟨_,_,_,_,_,_,_,_,_,_,_,⟨w7.heap.size,rfl,?_⟩,rfl⟩,?_⟩
   ·obtain⟨B8,E2,_⟩:=fj f 6 0 d .nil 0 B.tail t1 K (λh=>by omega) F.ends HR.out;refine⟨⟨f,_,K,o1,c1,?_,?_,?_,rS _ _ _ _ _ _ _ _,FO C0.size D9.out E4.out,B2.below ((aJ _ _).alloc (aD _) _),B8,?_⟩,?_,C0.alloc _⟩
    ·rw[<-A3.out,eW,if_pos E.out,HR.out];rfl
    ·have:=r.out;have:=V.out;omega
    ·have:=r.out;omega
    ·have:=r.out;have:=V.out;omega
    ·rw[ed (aC.1 C5.out).1];exact C5.out
   ·obtain⟨B8,E2,_⟩:=fj f 6 0 d .nil 0 B.tail t1 K (λh=>by omega) F.ends HR.out;rw[D3.out,(B2.below ((aJ _ _).alloc (aD _) _)).plen];have:=V.out;omega
structure SD (n lv d:Nat) (w:jW) (P T:Nat) (p:Nat) (l:List eD) (M:R Tr) (v:jU) (wr:jW):Prop where
 at':∃f t lc o' c',eW f 1 lv d t p lc=M/\12*lc.length<=f/\f<=n/\fw t/\ej (Fr w.heap.size) wr t v/\PS wr P T o' c' lc/\fL lc/\lc.length<=l.length
 gr:Gr P w wr
theorem LI{m:By}{z:jU}(a:str m=jT x)(b:S w.heap.size)(h:ej S w t v)(g:ej S w u z):ej S (w.alloc (jC #[jV 3,jV p,jV 0,jT ⟨#[]⟩,jT x,v,z,jS] 252)) (nd 3 p 0 [] m t u ce) (jP w.heap.size):=by
 rw[<-a];exact sW b h g
theorem Ik{l:List eD}(h:At w P f o c d l)(y:ByteArray)(g:y.data.toList=(hd l).t)(W:jW)(i:az w W):
  aA 152 #[jT y] W λe w'=>e=jR (jV (fT (hd l).t:Nat))/\az w w':=by
 rw[<-g];exact(Hz y W (h.env.below i)).mono λe w' ⟨a,b⟩=>⟨a,i.trans (b.mono i.size)⟩
theorem LJ{l:List eD}(h:At w P f o c d l)(y:ByteArray)(i:str (hd l).t=jT y)(hk:(hd l).t≠[])(W:jW)(j:az w W):
  aA 147 #[jP P] W λe w'=>e=jR (.agg #[jV ((hd l).k:Int),jT y,jV ((hd l).p:Int)])/\PS w' P f (o+3) (c-1) l.tail/\Gr P w w':=by
 obtain⟨m,n,q,r⟩:=h.ends.tail hk;have s:=h.below j;rw[<-i];exact(p_ W P f o c (hd l) l.tail s.psc n).mono λe w' ⟨a,b,g⟩=>⟨a,b,(em j).trans g⟩
theorem Il(n:Nat)(b:∀m,m<=n->ut m)(g d:Nat)(w:jW)(P i o c:Nat)(l:List eD)(h:At w P i o c d l)(j:1<=g)(q:g<=6)(r:12*l.length+(10-g)<=n+1):
  aA 235 #[jP P,jV (g:Int),jV (d:Int)] w (eB w P i (eW (n+1) 0 g d .nil 0 l)):=by
 obtain⟨y,s,u⟩:=fU (hd l).t;obtain⟨x,A,B,C⟩:=j4 (lI h y s w (aJ _ _)) h r j;have D:Hid (∀m,m<=n->∀(w:jW)(o c:Nat)(l:List eD),At w P i o c d l->12*l.length+(9-g)<=m->aA 235 #[jP P,jV ((g:Int)+1),jV (d:Int)] w (eB w P i (eW m 0 (g+1) d .nil 0 l))):=λm E w o c l h F=>by
  have:=b m E (g+1) d w P i o c l h (by omega) (by omega) (by omega);rw[show((g+1:Nat):Int)=(g:Int)+1 by omega]at this;exact this
 have H:Hid (∀m,m<=n->∀(w:jW)(o c:Nat)(l:List eD),At w P i o c d l->12*l.length+(9-g)<=m->aA 235 #[jP P,jV (IntKind.i64.wrap ((g:Int)+1)),jV (d:Int)] w (eB w P i (eW m 0 (g+1) d .nil 0 l))):=λm E w o c l h F=>by
  rw[wN (by omega) (by omega)];exact D m E w o c l h F
 have I:Hid (eW (n+1) 0 g d .nil 0 l=eT (eW n 0 (g+1) d .nil 0 l) λy J=>eW n 1 g d y (hd l).p J):=by
  show _=_;rw[eW,if_neg (by omega)]
 have K:Hid (∀e w',eB w P i (eW (n+1) 0 g d .nil 0 l) e w'->eB w P i (eW (n+1) 0 g d .nil 0 l) e w'):=λ_ _ h=>h;generalize L:eB w P i (eW (n+1) 0 g d .nil 0 l)=G at*;clear K;have K:Hid (∀e w',eB w P i (eW (n+1) 0 g d .nil 0 l) e w'->G e w'):=λe w' h=>by rw[<-L];exact h
 have h2:=GI;have h1:=zW;clear h r s u L b j;go_enter Tryz.func235,Tryz.ntmps235
 go_wp2_with(go_at_call 59;fail)
 refine x.mono ?_;rintro e w1 ⟨rfl,M⟩;have N:=jI M;clear M
 go_wp2_with(go_at_call 235;fail)
 refine(D n (aD _) w1 o c l (A.below N) (by have:=B.out;omega)).mono ?_;intro e O Q;rcases Q.parts with⟨t,l',v,S,T,U,rfl,V,W,Y⟩|⟨k,p,U,⟨a,rfl,Z⟩,Y⟩
 rotate_left
 ·refine⟨rfl,K _ _ ?_⟩;rw[I.out,U];exact⟨⟨a,rfl,Z⟩,(em N).trans Y⟩
 have q:=f_ n 0 (g+1) d .nil 0 l t l' (by omega) (by omega) U;obtain⟨E,rfl⟩:=fw.ptr q V;obtain⟨M,F⟩:=aB (eW n 1 g d t (hd l).p l');obtain⟨H,b,-⟩:=fj n 0 (g+1) d .nil 0 l t l' (λh=>by omega) A.ends U;have j:Hid (SD n g d w P i (hd l).p l M (jP E) O):=
  ⟨⟨n,t,l',S,T,F.symm,by have:=B.out;omega,aD _,q,V.old N.size,W,H,b⟩,(em N).trans Y⟩
 have r:Hid (eW (n+1) 0 g d .nil 0 l=M):=by
  show _=_;rw[I.out,U,F];rfl
 clear Q U V W Y F H b q I
 go_wp2_with fail
 go_loopw [8] (λv wr=>∃E:Nat,v=jP E/\Hid (SD n g d w P i (hd l).p l M (jP E) wr)) (λ_ wr=>ju P wr)
 case atStart=>exact⟨E,rfl,j⟩
 case round=>
  obtain⟨s,rfl,u⟩:=hrel;obtain⟨⟨f,x,L,M,B,N,O,S,T,I,V,W,Y⟩,q⟩:=u.out;obtain⟨f,rfl⟩:∃E,f=E+1:=⟨f-1,by have:=W.pos;omega⟩;have F:=jI N;have H:=jI V.plen;have b:Hid (At wr P i M B d L):=A.go q V W (by have:=A.deep;omega);obtain⟨x,E,A⟩:=j3 (jN O (jN S Y)) I q;clear N O S T I V W Y q u j;obtain⟨z,j,u⟩:=fU (hd L).t;have N:=jI j;have O:=jI u;clear j u
  go_wp2_with(go_at_call 59;fail)
  refine(lI b z N wr (aJ _ _)).mono ?_;rintro e S ⟨rfl,T⟩;have I:=jI T;clear T
  go_wp2_with(go_at_call 152;fail)
  refine(Ik b z O S I).mono ?_;rintro e V ⟨rfl,W⟩;have Y:=jI W;clear W I;by_cases q:fT (hd L).t=g
  rotate_left
  ·have j:(((fT (hd L).t:Nat):Int)==(g:Int))=false:=by simp;omega
   obtain⟨u,O,S,T⟩:=j4 q (jh b.ps (em Y) E) (b.ps.below Y) (A.trans (em Y));clear q;generalize ((fT (hd L).t:Nat):Int)=nv at*;go_wp2;refine K _ _ ?_
   rw[r.out,<-F.out,eW,if_neg u.out];exact⟨⟨_,_,_,rfl,O,S⟩,T⟩
  have j:(((fT (hd L).t:Nat):Int)==(g:Int))=true:=by simp;omega
  have u:=jI q;have I:Hid ((hd L).t≠[]):=λe=>by
   rw[e]at q;have W:fT []=0:=by decide
   have:=C.out;omega
  clear q;generalize ((fT (hd L).t:Nat):Int)=nv at*
  go_wp2_with(go_at_call 147;fail)
  refine(LJ b z N I V Y).mono ?_;rintro e O ⟨rfl,S,T⟩;obtain⟨C,-,-,V⟩:=b.ends.tail I;have Y:=jI (jh b.ps T E);have q:=jI T;have W:Hid (At O P i (M+3) (B-1) d L.tail):=b.go q S C (by have:=b.deep;omega);have I:Hid (12*L.tail.length+(9-g)<=f):=by show _<=_;have:=x.out;omega
  have E:=jI V;clear S T C V j
  go_wp2_with(go_at_call 235;fail)
  refine(D f (by have:=x.out;omega) _ _ _ L.tail W I).mono ?_;intro e i Q;rcases Q.parts with⟨M,J,B,b,O,U,rfl,D,j,S⟩|⟨k,p,U,⟨a,rfl,Z⟩,S⟩
  rotate_left
  ·refine⟨rfl,K _ _ ?_⟩;rw[r.out,<-F.out,eW,if_pos u.out,U];exact⟨⟨a,rfl,Z⟩,A.trans (q.trans S)⟩
  obtain⟨T,rfl⟩:=fw.ptr (f_ f 0 (g+1) d .nil 0 L.tail M J (by omega) (by omega) U) D;obtain⟨C,V,I,B,K⟩:=j5 U (D.old (A.trans q).size) (jh W.ps S Y) j (A.trans (q.trans S));clear Q U D j S;go_wp2;obtain⟨Z,r,-⟩:=fj f 0 (g+1) d .nil 0 L.tail M J (λh=>by omega) W.ends C
  have Y:=B.below ((aJ _ _).alloc (aD _) (jC #[jV 3,jV ((hd l).p:Int),jV 0,jT ⟨#[]⟩,jT z,jP s,jP T,jS] 252));refine⟨⟨i.heap.size,rfl,?_⟩,?_⟩
  ·refine⟨⟨f,_,J,b,O,?_,?_,?_,rS _ _ _ _ _ _ _ _,LI N K.size I V,Y,Z,?_⟩,K.alloc _⟩
   ·rw[<-F.out,eW,if_pos u.out,C.out];rfl
   ·have:=x.out;have:=E.out;omega
   ·have:=x.out;omega
   ·have:=x.out;have:=E.out;omega
  ·rw[H.out,Y.plen];have:=E.out;omega
theorem Qp:(Tryz.prog.info? 145).map (λi=>(i.zero,i.size,i.bytes))=some (some (jQ none),1,8):=by kernel_rfl
def wH(xs:List Tr)(r:R Tr):R Tr:=
 match r with
 | .ok (g,l)=> .ok (xs.foldr cc g,l)
 | .error e=> .error e
theorem qG(xs:List Tr)(t g:Tr)(l:List eD):wH (xs++[t]) (.ok (g,l))=wH xs (.ok (cc t g,l)):=by simp[wH]
theorem qH(xs:List Tr):xs.foldr cc ce=chain xs:=by
 induction xs with
 |nil=>rfl
 |cons x xs a=>rw[List.foldr_cons,a];rfl
theorem ue{w:World}{v:Value}(c:ej S w t v):∀(xs:List Tr)(a:List Value),ej S w (chain xs) (.tuple a.toArray)->ej S w (chain (xs++[t])) (.tuple (a++[v]).toArray)
 |[],a,h=>by
  have b:Value.tuple a.toArray= .tuple #[]:=by
   have:ej S w (.slice [] []) (.tuple a.toArray):=h;rw[ej]at this;exact this
  injection b with b;have:a=[]:=by simpa using b
  subst this;show ej S w (.slice [t] [.slice [] []]) _;rw[ej];exact⟨v,[],rfl,c,by rw[ej]⟩
 |x::xs,a,h=>by
  have b:ej S w (.slice [x] [chain xs]) (.tuple a.toArray):=h;rw[ej]at b;obtain⟨y,zs,e,d,f⟩:=b;injection e with e;have:a=y::zs:=by simpa using congrArg Array.toList e
  subst this;show ej S w (.slice [x] [chain (xs++[t])]) _;rw[ej];exact⟨y,zs++[v],rfl,d,ue c xs zs f⟩
theorem Iq{l:List eD}(b:PS w P a o c l)(d:Gr P w w')(h:w.ownsRow B 145 1 v n ys):w'.ownsRow B 145 1 v n ys:=by
 refine⟨h.1,?_⟩;rcases h.2 with e|⟨g',f,g,i,j,k,m⟩
 ·exact .inl e
 ·exact .inr ⟨g',f,g,i,j,xu b.own d _ _ _ (.inr rfl) k,m⟩
theorem Cv{l:List eD}(h:At w P f o c d l):
  aA 95 #[jP P] w λe w'=>(∃b:Bool,(hd l).t=(if b then[44] else[41])/\e=jR (.bool b)/\PS w' P f (o+3) (c-1) l.tail/\Gr P w w'/\fL l.tail/\l.tail.length<l.length)\/((hd l).t≠[44]/\(hd l).t≠[41]/\fQ 3 (hd l).p e w'/\Gr P w w'):=by
 by_cases h1:(hd l).t=[44]
 ·obtain⟨i,j,k,m⟩:=h.ends.tail (by rw[h1];simp);exact(Ar w P f o c (hd l) l.tail h.psc j h1).mono λe w' ⟨a,b,g⟩=> .inl ⟨true,h1,a,b,g,i,m⟩
 ·by_cases h2:(hd l).t=[41]
  ·obtain⟨i,j,k,m⟩:=h.ends.tail (by rw[h2];simp);exact(HL w P f o c (hd l) l.tail h.psc j h2).mono λe w' ⟨a,b,g⟩=> .inl ⟨false,h2,a,b,g,i,m⟩
  ·exact(Lu w P f o c (hd l) l.tail h.psc h1 h2).mono λe w' ⟨a,b⟩=> .inr ⟨h1,h2,a,em b⟩
structure LN (n d:Nat) (w:jW) (P T:Nat) (l:List eD) (M:R Tr) (b:Bool) (v:jU) (k:Nat) (wr:jW):Prop where
 at':∃xs ys lc o' c',ys.length=k/\k+lc.length<=l.length+1/\wr.ownsRow w.heap.size 145 1 v k ys/\ej (λi=>w.heap.size<=i/\some i≠v.ownBlock) wr (chain xs) (.tuple ys.toArray)/\PS wr P T o' c' lc/\fL lc/\lc.length<=l.length/\
  (b=false->M= .ok (chain xs,lc))/\(b=true->∃f,M=wH xs (eW f 7 0 d ce 0 lc)/\12*lc.length+10<=f/\f<=n)
 gr:Gr P w wr
def Ir(n:Nat):Prop:=∀m,m<=n->∀(d:Nat)(w:jW)(P a o c:Nat)(l:List eD),At w P a o c d l->12*l.length+9<=m->aA 206 #[jP P,jV (d:Int)] w (eB w P a (eW m 0 1 d .nil 0 l))
theorem DM(n:Nat)(j:Ir n)(d:Nat)(w:World)(P p o c:Nat)(l:List eD)(h:At w P p o c (d+1) l)(s:12*l.length+10<=n):
  aA 233 #[jP P,jV (d:Int)] w (m9 w P p (qE n d l)):=by
 obtain⟨v,y,z,A,B⟩:=info_parts Qp;have C:Hid (At w P p o c (d+1) l):=h;have D:Hid (12*l.length+10<=n):=s;have E:=h.deep;have F:Hid (∀m,m<=n->∀(w:World)(o c:Nat)(l:List eD),At w P p o c (d+1) l->12*l.length+9<=m->aA 206 #[jP P,jV ((d:Int)+1)] w (eB w P p (eW m 0 1 (d+1) .nil 0 l))):=λm H w o c l h I=>by
  have:=j m H (d+1) w P p o c l h I;rw[show((d+1:Nat):Int)=(d:Int)+1 by omega]at this;exact this
 have J:d<=100000:=by omega
 obtain⟨K,L⟩:=aB (qE n d l);have M:Hid (K=qE n d l):=L;have N:Hid (∀e w',m9 w P p K e w'->m9 w P p (qE n d l) e w'):=λe w' h=>by rw[<-L];exact h
 generalize O:m9 w P p (qE n d l)=G at*;clear h s E j L O;go_enter Tryz.func233,Tryz.ntmps233
 go_wp2_with(go_at_call 94;fail)
 refine(iO C.out ⟨#[41]⟩ (by decide)).mono ?_;have Q:Hid (∀e w1,(((hd l).t=[41]/\e=Ending.returned (.bool true)/\PS w1 P p (o+3) (c-1) l.tail/\Gr P w w1/\fL l.tail/\l.tail.length<l.length)\/((hd l).t≠[41]/\e=Ending.returned (.bool false)/\az w w1))->∃b:Bool,e= .returned (.bool (!b))/\LN n d w P p l K b jS 0 w1):=by
  rintro e w1 (⟨S,rfl,T,U,V,W⟩|⟨S,rfl,Y⟩)
  ·refine⟨false,rfl,⟨[],[],l.tail,_,_,rfl,by omega,bj _ _ _ _,by rw[chain,ej],T,V,by omega,λ_=>?_,λh=>by cases h⟩,U⟩;rw[M.out];unfold qE;rw[if_pos S];rfl
  ·refine⟨true,rfl,⟨[],[],l,_,_,rfl,by omega,bj _ _ _ _,by rw[chain,ej],C.out.ps.below Y,C.out.ends,aD _,(λh=>by cases h),λ_=>⟨n,?_,D.out,aD _⟩⟩,em Y⟩;rw[M.out];unfold qE;rw[if_neg S];cases eW n 7 0 d ce 0 l<;>rfl
 intro e w1 Z;obtain⟨b,rfl,H⟩:=Q.out e w1 Z;have J:Hid (LN n d w P p l K b jS 0 w1):=H;clear Z H Q
 go_wp2_with fail
 go_loopw [5,6] (λj s wr=>∃(b:Bool)(q:Option Addr)(k c:Nat),s= .bool b/\j= .slice q k c/\Hid (LN n d w P p l K b (.slice q k c) k wr)) (λ_ _ wr=>ju P wr)
 case atStart=>exact⟨b,none,0,0,by cases b<;>rfl,rfl,J.out⟩
 case round=>
  clear J;obtain⟨b,q,k,E,rfl,rfl,L⟩:=hrel;obtain⟨⟨xs,O,D,M,Q,hk,H,J,j,T,V,I,s,A0⟩,A1⟩:=L.out;have A2:k<=200000:=by have:=C.out.deep;omega
  cases b with
  |false=>
   have A3:Hid (ej (Fr w.heap.size) wr (chain xs) (.tuple O.toArray)):=ej.mono (λ_ h _=>h.1) _ _ j;have A4:Hid (wr.ownsRow w.heap.size 145 1 (.slice q k E) O.length O):=by rw[hk];exact J
   have A5:Hid (PS wr P p M Q D):=T;have A6:Hid (Gr P w wr):=A1;have A7:Hid (K= .ok (chain xs,D)):=s rfl;clear hk H J j T V I s A0 A1 L;go_wp2;refine N.out _ _ ?_
   rw[A7.out];exact⟨⟨_,O,M,Q,rfl,A4.out,A3.out,A5.out⟩,A6.out⟩
  |true=>
   obtain⟨f,A8,A9,B0⟩:=A0 rfl;obtain⟨f,rfl⟩:∃B1,f=B1+1:=⟨f-1,by omega⟩;have B2:Hid (K=wH xs (eW (f+1) 7 0 d ce 0 D)):=A8;have B3:Hid (ju P wr=D.length):=T.plen;have B4:Hid (At wr P p M Q (d+1) D):=C.out.go A1 T V (by have:=C.out.deep;omega);have M:Hid (12*D.length+10<=f+1/\f+1<=n/\D.length<=l.length/\k+D.length<=l.length+1):=⟨A9,B0,I,H⟩;have Q:Hid (ej (λi=>w.heap.size<=i/\some i≠(Value.slice q k E).ownBlock) wr (chain xs) (.tuple O.toArray)):=j;have B5:Hid (wr.ownsRow w.heap.size 145 1 (.slice q k E) k O):=J;have B6:Hid (O.length=k):=hk;have A6:Hid (Gr P w wr):=A1;clear hk H J j T V I s A0 A1 L A8 A9 B0
   go_wp2_with(go_at_call 206;fail)
   refine(F.out f (by have:=M.out;omega) _ _ _ D B4.out (by have:=M.out;omega)).mono ?_;intro e F Z;rcases Z.parts with⟨I,l1,L,H,J,j,rfl,s,L,B7⟩|⟨B8,B9,j,⟨a,rfl,C0⟩,B7⟩
   rotate_left
   ·refine⟨rfl,N.out _ _ ?_⟩;rw[B2.out,eW,j];exact⟨⟨a,rfl,C0⟩,A6.out.trans B7⟩
   obtain⟨C1,rfl⟩:=fw.ptr (f_ f 0 1 (d+1) .nil 0 D I l1 (by omega) (by omega) j) s;obtain⟨C2,C3,C4⟩:=fj f 0 1 (d+1) .nil 0 D I l1 (λh=>by omega) B4.out.ends j;have C5:=C4 (by decide) (by decide);have C6:Hid (eW f 0 1 (d+1) .nil 0 D= .ok (I,l1)):=j;have C7:Hid (ej (Fr wr.heap.size) F I (jP C1)):=s;have C8:Hid (ej (λi=>w.heap.size<=i/\some i≠(Value.slice q k E).ownBlock) F (chain xs) (.tuple O.toArray)):=jh B4.out.ps B7 Q.out;have Q:Hid (PS F P p H J l1):=L;have C9:Hid (Gr P w F):=A6.out.trans B7;have D0:Hid (F.ownsRow w.heap.size 145 1 (.slice q k E) k O):=Iq B4.out.ps B7 B5.out;have D1:Hid (fL l1/\l1.length<D.length):=⟨C2,C5⟩;have D:Hid (wr.heap.size<=F.heap.size):=B7.size;have D2:Hid (∀i,(Value.slice q k E).ownBlock=some i->w.heap.size<=i/\i<wr.heap.size):=λi D3=>B5.out.lt i D3;have D4:Hid ((F.alloc (.cells #[jP C1] 145)).ownsRow w.heap.size 145 1 (.slice q k E) k O):=D0.out.alloc _;have D5:Hid (∀(i:Nat)(x:Value),([jP C1]:List Value)[i]?=some x->(F.alloc (.cells #[jP C1] 145)).cell? (((jA F.heap.size):Addr).add i)=some x):=World.news_of_block (cs:=#[jP C1]) (t:=145) (fr:=(0,0)) (heap_alloc_last F _);have D6:Hid (∀u∈([jP C1]:List Value),u.oneCell'=true):=λu D7=>by simp at D7;rw[D7];rfl
   have D8:Hid (w.heap.size<=(F.alloc (.cells #[jP C1] 145)).heap.size):=by show _<=_;have:=C9.out.size;simp;omega
   clear Z j s L B7 C2 C3 C4 C5
   go_wp2_with(at_builtin;refine wpList_append_lies _ rfl _ _ 250 rfl w.heap.size 145 v _ 1 8 Tryz.underlying250 y z A B rfl (by decide) _ k _ rfl D4.out (jA F.heap.size) 1 1 [jP C1] rfl rfl D5.out D6.out (by decide) (by unfold maxLen;omega) (by omega) D8.out (F.heap.size+1) (by simp) ?_)
   intro g4 v w4 y z A B;have Z:F.heap.size<(F.alloc (.cells #[jP C1] 145)).heap.size:=by simp
   have j:=z.size;have s:wr.heap.size<=F.heap.size:=D.out;have L:w.heap.size<=g4:=by
    rcases A with h|h
    ·exact(D2.out g4 h).1
    ·have:=C9.out.size;omega
   have D:∀(b:Nat)(cs:Array Value)(t:TypeId),some b≠(Value.slice q k E).ownBlock->F.heap[b]?=some (.cells cs t)->w4.heap[b]?=some (.cells cs t):=λb cs t Y h=>by
    have W:=(aC.1 h).1;rw[z.block b (by omega) Y,ed W];exact h
   have D9:Gr P w w4:=by
    have h2:=C9.out;refine⟨z.os.trans h2.os,z.tape.trans h2.tape,z.output.trans h2.output,by have:=h2.size;omega,λb Y E0=>?_⟩;rw[z.block b (by have:=h2.size;omega) (λe=>by have:=(D2.out b e.symm).1;omega),ed (by have:=h2.size;omega)];exact h2.block b Y E0
   have E1:PS w4 P p H J l1:=by
    have E2:=C.out.ltP;have E3:=C.out.ltT;refine Q.out.of ?_ ?_
    ·rw[z.block P (by have:=C9.out.size;omega) (λe=>by have:=(D2.out P e.symm).1;omega),ed (by have:=C9.out.size;omega)]
    ·rw[z.block p (by have:=C9.out.size;omega) (λe=>by have:=(D2.out p e.symm).1;omega),ed (by have:=C9.out.size;omega)]
   have Q:ej (λi=>w.heap.size<=i/\some i≠(Value.slice (some (jA g4)) (k+1) v).ownBlock) w4 (chain (xs++[I])) (.tuple (O++[jP C1]).toArray):=by
    have E4:ej (λi=>w.heap.size<=i/\some i≠(Value.slice q k E).ownBlock/\i<F.heap.size) F (chain xs) (.tuple O.toArray):=ej.mono (λi h D3=>⟨h.1,h.2,D3⟩) _ _ C8.out;have E5:ej (λi=>w.heap.size<=i/\some i≠(Value.slice q k E).ownBlock/\i<F.heap.size) F I (jP C1):=ej.mono (λi h D3=>⟨by have:wr.heap.size<=i:=h;have:=A6.out.size;omega,λe=>by have:=(D2.out i e.symm).2;have:wr.heap.size<=i:=h;omega,D3⟩) _ _ C7.out;have E:=ue E5 xs O E4;refine ej.mono (λi h _=>⟨h.1,λe=>?_⟩) _ _ (ej.kept (λb cs t Y _ h=>D b cs t Y.2.1 h) _ _ E);have F:i=g4:=by injection e
    rcases A with Y|Y
    ·exact h.2.1 (by rw[Y,F])
    ·have:=h.2.2;omega
   have E:Hid (ej (λi=>w.heap.size<=i/\some i≠(Value.slice (some (jA g4)) (k+1) v).ownBlock) w4 (chain (xs++[I])) (.tuple (O++[jP C1]).toArray)):=Q;have F:Hid (Gr P w w4):=D9;have Y:Hid (At w4 P p H J (d+1) l1):=C.out.go D9 E1 D1.out.1 (by have:=B4.out.deep;have:=D1.out.2;omega);have C:Hid (w4.ownsRow w.heap.size 145 1 (.slice (some (jA g4)) (k+1) v) (k+1) (O++[jP C1])):=y;clear y z A B Z j s L D D9 E1 Q D4 D5 D6 D8 C7 C8 D0 D2
   go_wp2_with(go_at_call 95;fail)
   refine(Cv Y.out).mono ?_;rintro e H (⟨J,S,rfl,T,U,V,W⟩|⟨y,z,⟨a,rfl,C0⟩,U⟩)
   rotate_left
   ·refine⟨rfl,N.out _ _ ?_⟩;rw[B2.out,eW,C6.out];show m9 w P p (wH xs (if(hd l1).t=[44] then _ else eT (eC [41] l1) _)) _ _;unfold eC;rw[if_neg y,if_neg z];exact⟨⟨a,rfl,C0⟩,F.out.trans U⟩
   have A:Hid (LN n d w P p l K J (.slice (some (jA g4)) (k+1) v) (k+1) H):=by
    refine⟨⟨xs++[I],O++[jP C1],l1.tail,_,_,by simp[B6.out],?_,Iq Y.out.ps U C.out,jh Y.out.ps U E.out,T,V,?_,?_,?_⟩,F.out.trans U⟩
    ·have:=M.out;have:=D1.out.2;omega
    ·have:=M.out;have:=D1.out.2;omega
    ·rintro rfl;rw[B2.out,eW,C6.out];have B:(hd l1).t=[41]:=S;show wH xs (if(hd l1).t=[44] then _ else eT (eC [41] l1) _)=_;unfold eC;rw[if_neg (by rw[B];decide),if_pos B];show wH xs (.ok (cc I ce,l1.tail))=_;rw[<-qH,List.foldr_append];rfl
    ·rintro rfl;refine⟨f,?_,?_,?_⟩
     ·rw[B2.out,eW,C6.out];have B:(hd l1).t=[44]:=S;show wH xs (if(hd l1).t=[44] then eT (eW f 7 0 d ce 0 l1.tail) _ else _)=_;rw[if_pos B];cases eW f 7 0 d ce 0 l1.tail with
      |error e=>rfl
      |ok r=>obtain⟨g,Z⟩:=r;exact(qG xs I g Z).symm
     ·have:=M.out;have:=D1.out.2;omega
     ·have:=M.out;omega
   have j:Hid (ju P H<ju P wr):=by
    show _<_;rw[B3.out,T.plen];have:=D1.out.2;omega
   clear S T U V W;go_wp2;exact⟨⟨J,_,_,_,rfl,rfl,A.out⟩,j.out⟩
structure Q6 (n:Nat):Prop where
 bin:ut n
 one:Kk n
 leaf:FN n
 held:Cm n
 args:Im n
theorem At.pos{l:List eD}(h:At w P a o c d l):1<=l.length:=h.ends.pos
theorem ER(h:∀m,m<=n->ut m):OL n:=λm a d w P b o c l e f=>by
 obtain⟨k,rfl⟩:∃k,m=k+1:=⟨m-1,by omega⟩;exact AA k (h k (by omega)) d w P b o c l e (by omega)
theorem Bg(h:∀m,m<=n->ut m):Ir n:=λm a d w P b o c l e f=>ro m (h m a) d w P b o c l e f
theorem vG:∀n m,m<=n->Q6 m
 |0,m,a=>by
  obtain rfl:m=0:=by omega
  exact⟨λb d w P e o c l h h1 h2 f=>by have:=h.pos;omega,λd w P e o c l h f=>by have:=h.pos;omega,λd w P e o c l h f=>by have:=h.pos;omega,λd w P e o c l h f=>by have:=h.pos;omega,λd w P e o c l h f=>by have:=h.pos;omega⟩
 |n+1,m,a=>by
  have g:=vG n;by_cases i:m<=n
  ·exact g m i
  obtain rfl:m=n+1:=by omega
  have j:ut (n+1):=λb d w P e o c l h h1 h2 f=>by
   by_cases p:b=7
   ·subst p;exact Fx n (g n (aD _)).one d w P e o c l h (by omega)
   ·exact Il n (λm a=>(g m a).bin) b d w P e o c l h h1 (by omega) f
  have q:∀m,m<=n+1->ut m:=λm a=>by
   by_cases h:m<=n
   ·exact(g m h).bin
   ·obtain rfl:m=n+1:=by omega
    exact j
  have r:Cm (n+1):=λd w P e o c l h f=>DL n (g n (aD _)).bin d w P e o c l h f;have s:FN (n+1):=λd w P e o c l h f=>by
   by_cases u:(hd l).k=2
   ·exact Hw n d w P e o c l h u
   ·by_cases v:(hd l).k=0
    ·exact DK n (g n (aD _)).args d w P e o c l h f v
    ·exact Dx n (g n (aD _)).held d w P e o c l h f u v
  have x:Kk (n+1):=λd w P e o c l h f=>by
   by_cases hk:d<=12\/(hd l).k=3
   ·by_cases h1:(hd l).t=[45]
    ·exact wL n (g n (aD _)).one d w P e o c l h hk f ⟨#[45]⟩ h1 (.inl rfl)
    ·by_cases h2:(hd l).t=[33]
     ·exact wL n (g n (aD _)).one d w P e o c l h hk f ⟨#[33]⟩ h2 (.inr rfl)
     ·exact FP n (g n (aD _)).leaf (ER λm a=>(g m a).bin) d w P e o c l h hk f h1 h2
   ·exact Fy n d w P e o c l h (by omega) (by omega)
  exact⟨j,x,s,r,λd w P e o c l h f=>DM (n+1) (Bg q) d w P e o c l h f⟩
theorem Bh(n:Nat):ut n:=(vG n n (aD _)).bin
theorem ES(n:Nat):Ir n:=Bg λm _=>Bh m
theorem JW(n:Nat):OL n:=ER λm _=>Bh m
theorem ET(n:Nat):Cm n:=(vG n n (aD _)).held
theorem EU(n:Nat):Im n:=(vG n n (aD _)).args
abbrev st(c a:Int)(nm:By)(b v d el:Tr):Tr:= .agg [.lit (.int .i64 c),.lit (.int .i64 a),.lit (.string nm),b,v,d,el]
abbrev ef(l:List eD):Nat:=12*l.length+20
def iA(l:List eD):R Tr:=eW (ef l) 0 1 0 .nil 0 l
def kN(l:List eD):R Tr:=eW (ef l) 5 0 0 .nil 0 l
def FK(l:List eD):R Tr:=eW (ef l) 6 0 0 .nil 0 l
def x_(l:List eD):R Tr:=qE (ef l) 0 l
def gW(a:Nat)(l:List eD):R Tr:=
 eT (im l) λnm b=>
  if(hd b).t=[40] then eT (x_ b.tail) λg c=> .ok (st 8 a [] .nil (nd 5 a 0 nm [] .nil .nil g) ce ce,c)
  else if(hd b).t=[91] then eT (FK b.tail) λi c=>eT (eC [61] c) λ_ d=>eT (iA d) λv e=> .ok (st 3 a nm i v ce ce,e)
  else eT (eC [61] b) λ_ d=>eT (iA d) λv e=> .ok (st 2 a nm .nil v ce ce,e)
def iZ:Nat->Nat->Nat->List eD->R Tr
 |0,_,_,_=> .error (0,0)
 |f+1,0,d,l=>eT (l8 d l) λ_ _=>eT (eC [123] l) λ_ a=>iZ f 1 d a
 |f+1,1,d,l=>if(hd l).t=[125] then .ok (ce,l.tail) else eT (iZ f 2 (d+1) l) λt a=>eT (iZ f 1 d a) λg b=> .ok (cc t g,b)
 |f+1,2,d,l=>
  if(hd l).k=0 then eT (gW (hd l).p l) λt a=>eT (eC [59] a) λ_ b=> .ok (t,b)
  else if(hd l).t=[118,97,114] then eT (im l.tail) λnm a=>eT (eC [61] a) λ_ b=>eT (iA b) λv c=>eT (eC [59] c) λ_ e=> .ok (st 1 (hd l).p nm .nil v ce ce,e)
  else if(hd l).t=[114,101,116,117,114,110] then eT (iA l.tail) λv c=>eT (eC [59] c) λ_ e=> .ok (st 6 (hd l).p [] .nil v ce ce,e)
  else if(hd l).t=[112,114,105,110,116] then eT (iA l.tail) λv c=>eT (eC [59] c) λ_ e=> .ok (st 7 (hd l).p [] .nil v ce ce,e)
  else if(hd l).t=[105,102] then eT (kN l.tail) λv a=>eT (iZ f 0 d a) λh b=>
   if(hd b).t=[101,108,115,101] then eT (iZ f 0 d b.tail) λel c=> .ok (st 4 (hd l).p [] .nil v h el,c) else .ok (st 4 (hd l).p [] .nil v h ce,b)
  else if(hd l).t=[119,104,105,108,101] then eT (kN l.tail) λv a=>eT (iZ f 0 d a) λh b=> .ok (st 5 (hd l).p [] .nil v h ce,b)
  else .error (3,(hd l).p)
 |_+1,_+3,_,_=> .error (0,0)
theorem gH{x:By}{l a:List eD}{u:Unit}(h:eC x l= .ok (u,a))(b:x≠[])(c:fL l):fL a/\a.length<l.length:=by
 obtain⟨h1,rfl⟩:=io h;obtain⟨d,_,_,e⟩:=c.tail (by rw[h1];exact b);exact⟨d,e⟩
theorem oz{l a:List eD}{v:By}(h:im l= .ok (v,a))(b:fL l):fL a/\a.length<l.length:=by
 obtain⟨h1,_,_,rfl⟩:=r9 h;obtain⟨c,_,_,d⟩:=b.tail (b.kind (by omega));exact⟨c,d⟩
theorem jr{l b:List eD}{v:Tr}(h:iA l= .ok (v,b))(d:fL l):fL b/\b.length<l.length:=by
 obtain⟨a,_,c⟩:=fj _ 0 1 0 .nil 0 l v b (λ_=>by omega) d h;exact⟨a,c (by decide) (by decide)⟩
theorem oA{l b:List eD}{v:Tr}(h:kN l= .ok (v,b))(d:fL l):fL b/\b.length<l.length:=by
 obtain⟨a,_,c⟩:=fj _ 5 0 0 .nil 0 l v b (λh=>by omega) d h;exact⟨a,c (by decide) (by decide)⟩
theorem ya{l b:List eD}{v:Tr}(h:FK l= .ok (v,b))(d:fL l):fL b/\b.length<l.length:=by
 obtain⟨a,_,c⟩:=fj _ 6 0 0 .nil 0 l v b (λh=>by omega) d h;exact⟨a,c (by decide) (by decide)⟩
theorem Di{l b:List eD}{v:Tr}(h:qE n d l= .ok (v,b))(e:fL l):fL b/\b.length<l.length:=by
 unfold qE at h;split at h
 ·rename_i h1;obtain⟨f,_,_,g⟩:=e.tail (by rw[h1];simp);injection h with h;injection h with _ h;subst h;exact⟨f,g⟩
 ·obtain⟨a,_,c⟩:=fj _ 7 0 d ce 0 l v b (λh=>by omega) e h;exact⟨a,c (by decide) (by decide)⟩
theorem iB{x:By}{l:List eD}(h:(hd l).t=x)(a:x≠[])(b:fL l):fL l.tail/\l.tail.length<l.length:=by
 obtain⟨c,_,_,d⟩:=b.tail (by rw[h];exact a);exact⟨c,d⟩
theorem eV{l l':List eD}(h:(Except.ok (u,l):R Tr)= .ok (t,l')):u=t/\l=l':=by
 injection h with h;injection h with h1 h2;exact⟨h1,h2⟩
theorem td{l e:List eD}(h:gW a l= .ok (t,e))(s:fL l):fL e/\e.length<l.length:=by
 unfold gW at h;obtain⟨nm,z,h1,h⟩:=ee h;obtain⟨c,y⟩:=oz h1 s;split at h
 ·rename_i j;obtain⟨m,u⟩:=iB j (by decide) c;obtain⟨g,x,h2,h⟩:=ee h;obtain⟨f,o⟩:=Di h2 m;obtain⟨_,rfl⟩:=eV h;exact⟨f,by omega⟩
 split at h
 ·rename_i d;obtain⟨m,u⟩:=iB d (by decide) c;obtain⟨g,x,h2,h⟩:=ee h;obtain⟨f,o⟩:=ya h2 m;obtain⟨_,p,k,h⟩:=ee h;obtain⟨i,q⟩:=gH k (by decide) f;obtain⟨v,r,n,h⟩:=ee h;obtain⟨b,w⟩:=jr n i;obtain⟨_,rfl⟩:=eV h;exact⟨b,by omega⟩
 ·obtain⟨_,p,k,h⟩:=ee h;obtain⟨i,q⟩:=gH k (by decide) c;obtain⟨v,r,n,h⟩:=ee h;obtain⟨b,w⟩:=jr n i;obtain⟨_,rfl⟩:=eV h;exact⟨b,by omega⟩
theorem jg:∀(f g d:Nat)(l:List eD)(t:Tr)(n:List eD),fL l->iZ f g d l= .ok (t,n)->fL n/\n.length<l.length
 |0,_,_,_,_,_,_,h=>by simp[iZ]at h
 |f+1,0,d,l,t,n,a,h=>by
  rw[iZ]at h;obtain⟨_,_,_,h⟩:=ee h;obtain⟨_,r,h1,h⟩:=ee h;obtain⟨c,s⟩:=gH h1 (by decide) a;obtain⟨p,z⟩:=jg f 1 d r t n c h;exact⟨p,by omega⟩
 |f+1,1,d,l,t,n,a,h=>by
  rw[iZ]at h;split at h
  ·rename_i h1;obtain⟨c,s⟩:=iB h1 (by decide) a;obtain⟨_,rfl⟩:=eV h;exact⟨c,s⟩
  ·obtain⟨B,r,h1,h⟩:=ee h;obtain⟨c,s⟩:=jg f 2 (d+1) l B r a h1;obtain⟨g,A,h2,h⟩:=ee h;obtain⟨p,z⟩:=jg f 1 d r g A c h2;obtain⟨_,rfl⟩:=eV h;exact⟨p,by omega⟩
 |f+1,2,d,l,t,n,a,h=>by
  rw[iZ]at h;split at h
  ·obtain⟨B,r,h1,h⟩:=ee h;obtain⟨c,s⟩:=td h1 a;obtain⟨_,A,h2,h⟩:=ee h;obtain⟨p,z⟩:=gH h2 (by decide) c;obtain⟨_,rfl⟩:=eV h;exact⟨p,by omega⟩
  split at h
  ·rename_i e;obtain⟨i,x⟩:=iB e (by decide) a;obtain⟨nm,r,h1,h⟩:=ee h;obtain⟨c,s⟩:=oz h1 i;obtain⟨_,A,h2,h⟩:=ee h;obtain⟨p,z⟩:=gH h2 (by decide) c;obtain⟨v,q,k,h⟩:=ee h;obtain⟨j,u⟩:=jr k p;obtain⟨_,o,m,h⟩:=ee h;obtain⟨b,w⟩:=gH m (by decide) j;obtain⟨_,rfl⟩:=eV h;exact⟨b,by omega⟩
  split at h
  ·rename_i e;obtain⟨i,x⟩:=iB e (by decide) a;obtain⟨v,q,k,h⟩:=ee h;obtain⟨j,u⟩:=jr k i;obtain⟨_,o,m,h⟩:=ee h;obtain⟨b,w⟩:=gH m (by decide) j;obtain⟨_,rfl⟩:=eV h;exact⟨b,by omega⟩
  split at h
  ·rename_i e;obtain⟨i,x⟩:=iB e (by decide) a;obtain⟨v,q,k,h⟩:=ee h;obtain⟨j,u⟩:=jr k i;obtain⟨_,o,m,h⟩:=ee h;obtain⟨b,w⟩:=gH m (by decide) j;obtain⟨_,rfl⟩:=eV h;exact⟨b,by omega⟩
  split at h
  ·rename_i e;obtain⟨i,x⟩:=iB e (by decide) a;obtain⟨v,q,k,h⟩:=ee h;obtain⟨j,u⟩:=oA k i;obtain⟨y,o,m,h⟩:=ee h;obtain⟨b,w⟩:=jg f 0 d q y o j m;split at h
   ·rename_i E;obtain⟨C,I⟩:=iB E (by decide) b;obtain⟨el,G,F,h⟩:=ee h;obtain⟨D,H⟩:=jg f 0 d o.tail el G C F;obtain⟨_,rfl⟩:=eV h;exact⟨D,by omega⟩
   ·obtain⟨_,rfl⟩:=eV h;exact⟨b,by omega⟩
  split at h
  ·rename_i e;obtain⟨i,x⟩:=iB e (by decide) a;obtain⟨v,q,k,h⟩:=ee h;obtain⟨j,u⟩:=oA k i;obtain⟨y,o,m,h⟩:=ee h;obtain⟨b,w⟩:=jg f 0 d q y o j m;obtain⟨_,rfl⟩:=eV h;exact⟨b,by omega⟩
  ·cases h
 |f+1,g+3,d,l,t,n,a,h=>by simp[iZ]at h
abbrev Ot(t:TypeId):Prop:=t≠78/\t≠5/\t≠83
def eJ(S:Nat->Prop)(w w':jW):Prop:=∀(b:Nat)(cs:Array Value)(t:TypeId),S b->Ot t->w.heap[b]?=some (.cells cs t)->w'.heap[b]?=some (.cells cs t)
theorem eJ.trans{a b c:jW}(h:eJ S a b)(g:eJ S b c):eJ S a c:=λk cs t hk d e=>g k cs t hk d (h k cs t hk d e)
theorem eJ.gr{l:List eD}(d:PS w P a o c l)(f:Gr P w w'):eJ S w w':=λb cs t _ g h=>by
 have i:b≠P:=λe=>by
  subst e;rw[d.own]at h;injection h with h;injection h with _ h2;exact g.1 h2.symm
 exact f.blk h i
theorem eJ.set(a:q<m):eJ (Fr m) w (w.setCell (jB q i) v):=λb cs t c d h=>by
 rw[aG _ _ _ _ (by show b≠q;have:m<=b:=c;omega)];exact h
theorem eJ.alloc(A:Obj):eJ S w (w.alloc A):=λb cs t _ _ h=>by
 rw[ed (aC.1 h).1];exact h
theorem eJ.ex(h:eJ S w w')(a:ej S w t v):ej S w' t v:=
 ej.kept (λb cs t c d=>h b cs t c (by rcases d with rfl|rfl<;>decide)) t v a
theorem eJ.row(h:eJ S w w')(a:Ot e)(b:w.ownsRow B e z v n ys)(c:∀i,v.ownBlock=some i->S i):w'.ownsRow B e z v n ys:=by
 refine⟨b.1,?_⟩;rcases b.2 with d|⟨g',f,g,j,k,l,m⟩
 ·exact .inl d
 ·exact .inr ⟨g',f,g,j,k,h _ _ _ (c g' (by rw[j];rfl)) a l,m⟩
def fy(S:Nat->Prop)(w:jW)(e z:Nat)(v:jU)(n:Nat)(cs:jE):Prop:=w.ownsRow 0 e z v n cs/\∀i,v.ownBlock=some i->S i
theorem fy.kept{cs:jE}(h:fy S w e z v n cs)(hk:eJ S w w')(a:Ot e):fy S w' e z v n cs:=⟨hk.row a h.1 h.2,h.2⟩
theorem fy.mono{a:Nat->Prop}{cs:jE}(h:fy S w e z v n cs)(c:∀b,S b->b<w.heap.size->a b):fy a w e z v n cs:=⟨h.1,λi d=>c i (h.2 i d) (lT h.1 i d)⟩
theorem fy.none(S:Nat->Prop)(w:jW)(e z:Nat):fy S w e z jS 0 []:=⟨bj w _ _ _,λi a=>by cases a⟩
def ey(S:Nat->Prop)(w:jW):Tr->jE->Prop
 | .slice [.agg [.lit (.int _ c),.lit (.int _ a),.lit (.string nm),b,v,d,el]] [g],cs=>
  ∃(e f:jO)(h i:jU)(nt j:Nat)(ts k l:jE),cs=[jV c,jV a,str nm,jQ e,jQ f,h,i]++l/\ej S w b (jQ e)/\ej S w v (jQ f)/\fy S w 147 7 h nt ts/\ey S w d ts/\fy S w 147 7 i j k/\ey S w el k/\ey S w g l
 | .slice [] [],cs=>cs=[]
 |_,_=>False
theorem ey.kept(h1:eJ S w w')(t:Tr)(cs:jE)(h:ey S w t cs):ey S w' t cs:=by
 unfold ey at h;split at h
 ·obtain⟨a,b,c,d,nt,f,ts,g,i,e,j,k,l,m,n,o,p⟩:=h;rw[ey];exact⟨a,b,c,d,nt,f,ts,g,i,e,h1.ex j,h1.ex k,l.kept h1 (by decide),ey.kept h1 _ _ m,n.kept h1 (by decide),ey.kept h1 _ _ o,ey.kept h1 _ _ p⟩
 ·rw[ey];exact h
 ·exact h.elim
theorem ey.mono{a:Nat->Prop}(h1:∀b,S b->b<w.heap.size->a b)(t:Tr)(cs:jE)(h:ey S w t cs):ey a w t cs:=by
 unfold ey at h;split at h
 ·obtain⟨c,d,f,g,nt,i,ts,j,k,e,l,m,n,o,p,q,r⟩:=h;rw[ey];exact⟨c,d,f,g,nt,i,ts,j,k,e,ej.mono h1 _ _ l,ej.mono h1 _ _ m,n.mono h1,ey.mono h1 _ _ o,p.mono h1,ey.mono h1 _ _ q,ey.mono h1 _ _ r⟩
 ·rw[ey];exact h
 ·exact h.elim
theorem ey.old{cs:jE}(h:ey (Fr m) w t cs)(a:n<=m):ey (Fr n) w t cs:=ey.mono (λb c _=>aP a c) t cs h
theorem oD(S:Nat->Prop)(w:jW):ey S w ce []:=by rw[ey]
theorem mF{c a:Int}{b v:Tr}{d e:jO}(f:ej S w b (jQ d))(g:ej S w v (jQ e)):ey S w (cc (st c a nm b v ce ce) ce) [jV c,jV a,str nm,jQ d,jQ e,jS,jS]:=by
 rw[ey];exact⟨d,e,_,_,0,0,[],[],[],rfl,f,g,fy.none S w 147 7,oD S w,fy.none S w 147 7,oD S w,oD S w⟩
theorem At.zero{l:List eD}(h:At w P a o c d l):At w P a o c 0 l:=⟨h.env,h.ps,h.ends,h.far,by have:=h.deep;omega⟩
theorem qC{l:List eD}(h:At w P a o c d l):aA 206 #[jP P,jV 0] w (eB w P a (iA l)):=ES _ _ (aD _) 0 w P a o c l h.zero (by unfold ef;omega)
theorem Cq{l:List eD}(h:At w P a o c d l):aA 207 #[jP P,jV 0] w (eB w P a (kN l)):=ET _ 0 w P a o c l h.zero (by unfold ef;omega)
theorem Qi{l:List eD}(h:At w P a o c d l)(hd:1+l.length<=100000):aA 234 #[jP P,jV 0] w (eB w P a (FK l)):=JW _ _ (aD _) 0 w P a o c l ⟨h.env,h.ps,h.ends,h.far,hd⟩ (by unfold ef;omega)
theorem LD{l:List eD}(h:At w P a o c d l)(hd:1+l.length<=100000):aA 233 #[jP P,jV 0] w (m9 w P a (x_ l)):=EU _ 0 w P a o c l ⟨h.env,h.ps,h.ends,h.far,hd⟩ (by unfold ef;omega)
theorem om{l a:List eD}(h:iA l= .ok (t,a))(c:ej S w t v):∃b,v=jP b:=fw.ptr (f_ _ 0 1 0 .nil 0 l t a (by omega) (by omega) h) c
theorem yU{l a:List eD}(h:kN l= .ok (t,a))(c:ej S w t v):∃b,v=jP b:=fw.ptr (f_ _ 5 0 0 .nil 0 l t a (by omega) (by omega) h) c
theorem LF{l a:List eD}(h:FK l= .ok (t,a))(c:ej S w t v):∃b,v=jP b:=fw.ptr (f_ _ 6 0 0 .nil 0 l t a (by omega) (by omega) h) c
def tU(w0 w:jW)(P a q:Nat)(r:R Tr)(e:Ending)(w':jW):Prop:=
 (∃t b cs c d,r= .ok (t,b)/\e=jR (.tuple #[])/\w'.heap[q]?=some (.cells cs 147)/\ey (Fr w.heap.size) w' (cc t ce) cs.toList/\PS w' P a c d b/\Gr P w0 w')\/(∃k p,r= .error (k,p)/\fQ k p e w'/\Gr P w0 w')
theorem Hf{m:By}{a:jU}{b:jE}(c:str m=jT x)(d:S w.heap.size)(e:w.ownsRow B 145 1 a b.length b)(f:∀i,a.ownBlock=some i->S i)(h:ej S w g (.tuple b.toArray)):ej S (w.alloc (jC #[jV 5,jV p,jV 0,jT x,jT ⟨#[]⟩,jQ none,jQ none,a] 252)) (nd 5 p 0 m [] .nil .nil g) (jP w.heap.size):=by
 refine y_ d (by rw[c];exact heap_alloc_last _ _) (gV _ _) (gV _ _) (jd (e.alloc _) (aQ _)) f (sV h _)
theorem tV{w0:jW}{l:List eD}(b:oF w0)(e:Gr P w0 W)(f:14<=P)(g:PS W P a o c l)(h:fL l)(hd:d+l.length<=100000):At W P a o c d l:=⟨b.gr e f,g,h,f,hd⟩
theorem Ae(a d:Nat)(w0 w:jW)(P f q o c:Nat)(l:List eD)(h:At w P f o c d l)(g:oF w0)(j:Gr P w0 w)(m:w0.heap.size<=q)(n:P<q)(r:f<q)
  (s:w.heap[q]?=some (jC #[jV 0,jV (a:Int),jT ⟨#[]⟩,jQ none,jQ none,jS,jS] 147)):
  aA 205 #[jP P,jP q] w (tU w0 w P f q (gW a l)):=by
 obtain⟨y,u,v⟩:=fU (hd l).t;obtain⟨x,z,A⟩:=j3 h j g;have B:Hid (w0.heap.size<=q/\P<q/\f<q/\q<w.heap.size):=⟨m,n,r,(aC.1 s).1⟩;have C:=jI s;have D:=jI u;have E:Hid (∀e w',tU w0 w P f q (gW a l) e w'->tU w0 w P f q (gW a l) e w'):=λ_ _ h=>h;generalize F:tU w0 w P f q (gW a l)=G at*;clear E;have E:Hid (∀e w',tU w0 w P f q (gW a l) e w'->G e w'):=λe w' h=>by rw[<-F];exact h
 clear h g j m n r s u v F;go_enter Tryz.func205,Tryz.ntmps205
 go_wp2_with(go_at_call 93;fail)
 refine(yN x).mono ?_;rintro e H (⟨I,rfl,J,K,L,M⟩|⟨k,I,⟨b,rfl,N⟩,K⟩)
 rotate_left
 ·refine⟨rfl,E _ _ (.inr ⟨k,_,?_,⟨b,rfl,N⟩,z.trans K⟩)⟩;unfold gW;rw[I];rfl
 have O:=jI I;have Q:Hid (H.heap[q]?=some (jC #[jV 0,jV (a:Int),jT ⟨#[]⟩,jQ none,jQ none,jS,jS] 147)):=K.blk C (by have:=B.out;omega);have T:=jI (z.trans K);have U:=jI K.size;have V:Hid (At H P f (o+3) (c-1) d l.tail):=x.go K J L (by have:=x.deep;omega);have W:=jI M;rw[D.out];clear I J K L M C z
 go_wp2_with(go_at_call 94;fail)
 refine(iO V ⟨#[40]⟩ (by decide)).mono ?_;rintro e w3 (⟨I,rfl,J,K,L,M⟩|⟨I,rfl,N⟩)
 ·have Y:=K.blk Q (by have:=B.out;omega);have Z:=ea Y 0;have g:=jc 0 Y;obtain⟨j,m,n,r,s,u⟩:=j6 Y (T.trans K) (aP U K.size) I J (jN L M);clear Y I J K L M Q T
  go_wp2_with fail
  obtain⟨v,F⟩:=aB (w3.setCell (jA q) (jV 8));have z:Hid (v.heap[q]?=some (jC #[jV 8,jV (a:Int),jT ⟨#[]⟩,jQ none,jQ none,jS,jS] 147)):=by
   show _=_;rw[F];exact aH _ _ _ _ _ _ j
  have C:=jI z;have A0:Hid (PS v.drew P f (o+3+3) (c-1-1) l.tail.tail):=by
   show PS _ _ _ _ _ _;rw[F];exact(s.set B.out.2.1 B.out.2.2.1).below (aJ _ _).drew
  have A1:Hid (Gr P w0 v.drew):=by
   show Gr _ _ _;rw[F];exact(m.set B.out.1).trans (em (aJ _ _).drew)
  have A2:Hid (w.heap.size<=v.drew.heap.size):=by
   show _<=_;rw[F];show w.heap.size<=(w3.setCell (jA q) (jV 8)).heap.size;simp;exact n
  rw[<-F];clear F j s m Z g;have F:Hid (At v.drew P f (o+3+3) (c-1-1) d l.tail.tail):=tV A A1 x.far A0 u.out.1 (by have:=x.deep;have:=W.out;have:=u.out.2;omega);have A3:v.cell? (jB q 1)=some (jV (a:Int)):=eo z rfl
  go_region_with(go_at_call 233;refine(LD F (by have:=x.deep;have:=W.out;have:=u.out.2;omega)).mono ?_;intro e w5 u;rcases u.parts with⟨A4,A5,A6,A7,A8,A9,B0,rfl,B1,B2,B3,B4⟩|⟨k,p,B0,⟨b,rfl,N⟩,B4⟩;rotate_left;exact(by refine⟨rfl,E _ _ (.inr ⟨k,p,?_,⟨b,rfl,N⟩,A1.trans B4⟩)⟩;unfold gW;rw[O.out];show(if(hd l.tail).t=[40] then _ else _)=_;rw[if_pos r.out,B0];rfl);obtain⟨B5,cv,rfl⟩:=eh B1;have B6:=B4.blk C (by have:=B.out;omega);have B7:=ea B6 4;have B8:=jc 1 B6;have B9:=jc 4 B6;have C0:Hid (w5.heap[q]?=some (jC #[jV 8,jV (a:Int),jT ⟨#[]⟩,jQ none,jQ none,jS,jS] 147)):=B6;have C1:Hid (w5.ownsRow v.drew.heap.size 145 1 (jL B5 A7.length cv) A7.length A7):=B1;have C2:Hid (ej (Fr v.drew.heap.size) w5 A4 (.tuple A7.toArray)):=B2;have C3:Hid (PS w5 P f A8 A9 A5):=B3;have C4:Hid (Gr P w0 w5):=A1.trans B4;have C5:Hid (w.heap.size<=w5.heap.size):=aP A2 B4.size;have C6:Hid (x_ l.tail.tail= .ok (A4,A5)):=B0;have C7:q<w5.heap.size:=(aC.1 B6).1;clear u B0 B1 B2 B3 B4 B6)
  all_goals
   go_wp2;refine bodyPost_ret (results_none rfl _ _ _) rfl ?_
   refine E _ _ (.inl ⟨st 8 (a:Int) [] .nil (nd 5 (a:Int) 0 (hd l).t [] .nil .nil A4) ce ce,A5,#[jV 8,jV (a:Int),jT ⟨#[]⟩,jQ none,jP w5.heap.size,jS,jS],A8,A9,?_,rfl,?_,?_,?_,?_⟩)
   ·unfold gW;rw[O.out];show(if(hd l.tail).t=[40] then _ else _)=_;rw[if_pos r.out,C6.out];rfl
   ·rw[ed (by simp;omega)];exact aH _ _ _ _ _ _ C0
   ·have C8:q<v.drew.heap.size:=(aC.1 C).1;have hk:eJ (Fr v.drew.heap.size) w5 (w5.setCell (jB q 4) (jP w5.heap.size)):=eJ.set C8;have v:(w5.setCell (jB q 4) (jP w5.heap.size)).heap.size=w5.heap.size:=by simp
    have C:=Hf (S:=Fr w.heap.size) (p:=(a:Int)) (w:=w5.setCell (jB q 4) (jP w5.heap.size)) D (by show w.heap.size<=_;rw[v];exact C5) (hk.row (by decide) C1 (λi C9=>(C1.lt i C9).1)) (λi C9=>aP A2 (C1.lt i C9).1) ((hk.ex C2).old A2);rw[v]at C;exact mF (gV _ _) C
   ·exact(C3.set B.out.2.1 B.out.2.2.1).below ((aJ _ _).alloc (aD _) _)
   ·exact(C4.set B.out.1).alloc _
 ·have K:Gr P H w3:=em N;have Y:=K.blk Q (by have:=B.out;omega);have Z:=ea Y 0;have H:=ea Y 2;have g:=jc 0 Y;have v:=jc 2 Y;obtain⟨j,m,n,r,s,C⟩:=j6 Y (T.trans K) (aP U K.size) I (V.ps.below N) V.ends;clear Y I K N Q T V
  go_wp2_with(go_at_call 94;fail)
  obtain⟨U,Q⟩:=aB ((w3.setCell (jA q) (jV 2)).setCell (jB q 2) (jT y));have z:Hid (U.heap[q]?=some (jC #[jV 2,jV (a:Int),jT y,jQ none,jQ none,jS,jS] 147)):=by
   show _=_;rw[Q];exact aH _ _ _ _ _ _ (aH _ _ _ _ _ _ j)
  have A0:Hid (PS U P f (o+3) (c-1) l.tail):=by
   show PS _ _ _ _ _ _;rw[Q];exact(s.set B.out.2.1 B.out.2.2.1).set B.out.2.1 B.out.2.2.1
  have A1:Hid (Gr P w0 U):=by
   show Gr _ _ _;rw[Q];exact(m.set B.out.1).set B.out.1
  have A2:Hid (w.heap.size<=U.heap.size):=by
   show _<=_;rw[Q];simp;exact n
  rw[<-Q];clear Q j s m n Z g H v;have F:Hid (At U P f (o+3) (c-1) d l.tail):=tV A A1 x.far A0 C (by have:=x.deep;have:=W.out;omega);refine(iO F ⟨#[91]⟩ (by decide)).mono ?_;rintro e w5 (⟨I,rfl,J,K,L,M⟩|⟨I,rfl,N⟩)
  ·have B2:=K.blk z (by have:=B.out;omega);obtain⟨C0,C4,C5,T⟩:=j4 B2 (A1.trans K) (aP A2 K.size) I;have V:Hid (At w5 P f (o+3+3) (c-1-1) d l.tail.tail):=tV A C4 x.far J L (by have:=x.deep;have:=W.out;omega);have Y:Hid (1+l.tail.tail.length<=100000):=by show _<=_;have:=x.deep;have:=W.out;omega
   clear B2 I J K L M z A1 A2 A0 F
   go_wp2_with(go_at_call 234;fail)
   refine(Qi V Y).mono ?_;intro e j u;rcases u.parts with⟨A4,A5,A6,A8,A9,B0,rfl,m,n,s⟩|⟨k,p,B0,⟨b,rfl,N⟩,s⟩
   rotate_left
   ·refine⟨rfl,E _ _ (.inr ⟨k,p,?_,⟨b,rfl,N⟩,C4.trans s⟩)⟩;unfold gW;rw[O.out];show(if(hd l.tail).t=[40] then _ else if(hd l.tail).t=[91] then _ else _)=_;rw[if_neg r.out,if_pos T.out,B0];rfl
   obtain⟨H,rfl⟩:=LF B0 m;obtain⟨C,Q⟩:=ya B0 V.ends;have Y:=s.blk C0 (by have:=B.out;omega);have Z:=ea Y 0;have D0:=ea Y 3;have g:=jc 0 Y;have D1:=jc 3 Y;obtain⟨D2,D3,D4,D5,D6,D7,D8⟩:=j7 Y m n (C4.trans s) (aP C5 s.size) (jN C Q) B0;clear u B0 m n s Y C Q C0 C4
   go_wp2_with(go_at_call 92;fail)
   obtain⟨m,n⟩:=aB ((j.setCell (jA q) (jV 3)).setCell (jB q 3) (jP H));have s:Hid (m.heap[q]?=some (jC #[jV 3,jV (a:Int),jT y,jP H,jQ none,jS,jS] 147)):=by
    show _=_;rw[n];exact aH _ _ _ _ _ _ (aH _ _ _ _ _ _ D2)
   have C:Hid (ej (Fr w.heap.size) m A4 (jP H)):=by
    show ej _ _ _ _;rw[n];have Q:q<w5.heap.size:=by have:=B.out;have:=C5.out;omega
    exact(((eJ.set Q).trans (eJ.set Q)).ex D3).old C5
   have Y:Hid (PS m P f A8 A9 A5):=by
    show PS _ _ _ _ _ _;rw[n];exact(D4.set B.out.2.1 B.out.2.2.1).set B.out.2.1 B.out.2.2.1
   have j:Hid (Gr P w0 m):=by
    show Gr _ _ _;rw[n];exact(D5.set B.out.1).set B.out.1
   have Q:Hid (w.heap.size<=m.heap.size):=by
    show _<=_;rw[n];simp;exact D6
   rw[<-n];clear n D2 D4 D5 D6 Z g D0 D1 D3;have Z:Hid (At m P f A8 A9 d A5):=tV A j x.far Y D7.out.1 (by have:=x.deep;have:=W.out;have:=V.deep;have:=D7.out.2;omega);refine(jY Z ⟨#[61]⟩ (by decide)).mono ?_;rintro e g (⟨I,rfl,J,K,L,M⟩|⟨I,⟨b,rfl,N⟩,K⟩)
   rotate_left
   ·refine⟨rfl,E _ _ (.inr ⟨_,_,?_,⟨b,rfl,N⟩,j.trans K⟩)⟩;unfold gW;rw[O.out];show(if(hd l.tail).t=[40] then _ else if(hd l.tail).t=[91] then _ else _)=_;rw[if_neg r.out,if_pos T.out,D8.out];show eT (eC [61] A5) _=_;have n:=I;rw[n];rfl
   have W:Hid (g.heap[q]?=some (jC #[jV 3,jV (a:Int),jT y,jP H,jQ none,jS,jS] 147)):=K.blk s (by have:=B.out;omega);obtain⟨V,m,D9,E0⟩:=j4 (j.trans K) (aP Q K.size) (jh Y K C) I;have E1:Hid (At g P f (A8+3) (A9-1) d A5.tail):=tV A V x.far J L (by have:=Z.deep;omega);clear I J K L M s C Y j Z
   go_wp2_with(go_at_call 206;fail)
   refine(qC E1).mono ?_;intro e C u;rcases u.parts with⟨Y,E2,E3,E4,v,B0,rfl,E5,E6,E7⟩|⟨k,p,B0,⟨b,rfl,N⟩,E7⟩
   rotate_left
   ·refine⟨rfl,E _ _ (.inr ⟨k,p,?_,⟨b,rfl,N⟩,V.trans E7⟩)⟩;unfold gW;rw[O.out];show(if(hd l.tail).t=[40] then _ else if(hd l.tail).t=[91] then _ else _)=_;rw[if_neg r.out,if_pos T.out,D8.out];show eT (eC [61] A5) _=_;rw[E0.out];show eT (iA A5.tail) _=_;rw[B0];rfl
   obtain⟨E8,rfl⟩:=om B0 E5;have E9:=E7.blk W (by have:=B.out;omega);have B7:=ea E9 4;have F0:=jc 4 E9;obtain⟨F1,F2,F3,F4,F5,F6⟩:=j6 E9 E5 (jh E1.ps E7 D9) E6 (V.trans E7) B0;clear u B0 E5 E6 E7 E9;go_wp2;go_end0;have F7:q<g.heap.size:=by have:=B.out;have:=m.out;omega
   refine E _ _ (.inl ⟨st 3 (a:Int) (hd l).t A4 Y ce ce,E2,#[jV 3,jV (a:Int),jT y,jP H,jP E8,jS,jS],E4,v,?_,rfl,?_,?_,?_,?_⟩)
   ·unfold gW;rw[O.out];show(if(hd l.tail).t=[40] then _ else if(hd l.tail).t=[91] then _ else _)=_;rw[if_neg r.out,if_pos T.out,D8.out];show eT (eC [61] A5) _=_;rw[E0.out];show eT (iA A5.tail) _=_;rw[F6.out];rfl
   ·exact aH _ _ _ _ _ _ F1
   ·show ey _ _ _ [jV 3,jV (a:Int),jT y,jP H,jP E8,jS,jS];rw[<-D.out];exact mF ((eJ.set B.out.2.2.2).ex F3) (((eJ.set F7).ex F2).old m)
   ·exact F4.set B.out.2.1 B.out.2.2.1
   ·exact F5.set B.out.1
  ·have K:Gr P U w5:=em N;have s:Hid (w5.heap[q]?=some (jC #[jV 2,jV (a:Int),jT y,jQ none,jQ none,jS,jS] 147)):=K.blk z (by have:=B.out;omega);obtain⟨j,Q,T,Z⟩:=j4 (A1.trans K) (aP A2 K.size) I (F.below N);clear I N K z A1 A2 A0 F
   go_wp2_with(go_at_call 92;fail)
   refine(jY Z ⟨#[61]⟩ (by decide)).mono ?_;rintro e g (⟨I,rfl,J,K,L,M⟩|⟨I,⟨b,rfl,N⟩,K⟩)
   rotate_left
   ·refine⟨rfl,E _ _ (.inr ⟨_,_,?_,⟨b,rfl,N⟩,j.trans K⟩)⟩;unfold gW;rw[O.out];show(if(hd l.tail).t=[40] then _ else if(hd l.tail).t=[91] then _ else eT (eC [61] l.tail) _)=_;rw[if_neg r.out,if_neg T.out];have n:=I;rw[n];rfl
   have W:Hid (g.heap[q]?=some (jC #[jV 2,jV (a:Int),jT y,jQ none,jQ none,jS,jS] 147)):=K.blk s (by have:=B.out;omega);obtain⟨V,m,E0⟩:=j3 (j.trans K) (aP Q K.size) I;have E1:Hid (At g P f (o+3+3) (c-1-1) d l.tail.tail):=tV A V x.far J L (by have:=Z.deep;omega);clear I J K L M s j Z
   go_wp2_with(go_at_call 206;fail)
   refine(qC E1).mono ?_;intro e C u;rcases u.parts with⟨Y,E2,E3,E4,v,B0,rfl,E5,E6,E7⟩|⟨k,p,B0,⟨b,rfl,N⟩,E7⟩
   rotate_left
   ·refine⟨rfl,E _ _ (.inr ⟨k,p,?_,⟨b,rfl,N⟩,V.trans E7⟩)⟩;unfold gW;rw[O.out];show(if(hd l.tail).t=[40] then _ else if(hd l.tail).t=[91] then _ else eT (eC [61] l.tail) _)=_;rw[if_neg r.out,if_neg T.out,E0.out];show eT (iA l.tail.tail) _=_;rw[B0];rfl
   obtain⟨E8,rfl⟩:=om B0 E5;have E9:=E7.blk W (by have:=B.out;omega);have B7:=ea E9 4;have F0:=jc 4 E9;obtain⟨F1,F2,F4,F5,F6⟩:=j5 E9 E5 E6 (V.trans E7) B0;clear u B0 E5 E6 E7 E9;go_wp2;go_end0;have F7:q<g.heap.size:=by have:=B.out;have:=m.out;omega
   refine E _ _ (.inl ⟨st 2 (a:Int) (hd l).t .nil Y ce ce,E2,#[jV 2,jV (a:Int),jT y,jQ none,jP E8,jS,jS],E4,v,?_,rfl,?_,?_,?_,?_⟩)
   ·unfold gW;rw[O.out];show(if(hd l.tail).t=[40] then _ else if(hd l.tail).t=[91] then _ else eT (eC [61] l.tail) _)=_;rw[if_neg r.out,if_neg T.out,E0.out];show eT (iA l.tail.tail) _=_;rw[F6.out];rfl
   ·exact aH _ _ _ _ _ _ F1
   ·show ey _ _ _ [jV 2,jV (a:Int),jT y,jQ none,jP E8,jS,jS];rw[<-D.out];exact mF (gV _ _) (((eJ.set F7).ex F2).old m)
   ·exact F4.set B.out.2.1 B.out.2.2.1
   ·exact F5.set B.out.1
def nB(w:jW)(P a:Nat)(r:R Tr)(e:Ending)(w':jW):Prop:=
 (∃t b cs c d,r= .ok (t,b)/\e=jR (.agg cs)/\ey (Fr w.heap.size) w' (cc t ce) cs.toList/\PS w' P a c d b/\Gr P w w')\/(∃k p,r= .error (k,p)/\fQ k p e w'/\Gr P w w')
def ua(w:jW)(P a:Nat)(r:R Tr)(e:Ending)(w':jW):Prop:=
 (∃t b v n cs c d,r= .ok (t,b)/\e=jR v/\w'.ownsRow w.heap.size 147 7 v n cs/\ey (Fr w.heap.size) w' t cs/\PS w' P a c d b/\Gr P w w')\/(∃k p,r= .error (k,p)/\fQ k p e w'/\Gr P w w')
def CW(f:Nat):Prop:=∀(d:Nat)(w:jW)(P a o c:Nat)(l:List eD),At w P a o c d l->3*l.length+2<=f->aA 97 #[jP P,jV (d:Int)] w (ua w P a (iZ f 0 d l))
def Sz(f:Nat):Prop:=∀(d:Nat)(w:jW)(P a o c:Nat)(l:List eD),At w P a o c d l->3*l.length<=f->aA 149 #[jP P,jV (d:Int)] w (nB w P a (iZ f 2 d l))
theorem yP(h:ey S w (cc t ce) cs.toList):∃(i o:Int)(m:ByteArray)(j p:jO)(r:jO)(l f:Nat)(g:jO)(k d:Nat),cs=#[jV i,jV o,jT m,jQ j,jQ p,jL r l f,jL g k d]:=by
 unfold ey at h;split at h
 ·rename_i a;obtain⟨x,D,v,B,nt,A,ts,y,b,e,E,z,n,F,q,C,c⟩:=h;injection a with h1 h2;injection h2 with h2 _;subst h2;have:b=[]:=by rw[ey]at c;exact c
  subst this;obtain⟨s,f,rfl⟩:=eh n.1;obtain⟨u,d,rfl⟩:=eh q.1;have h:=congrArg List.toArray e;rw[bM]at h;exact⟨_,_,_,_,_,_,_,_,_,_,_,h⟩
 ·rename_i a;injection a with h1 h2;cases h1
 ·exact h.elim
theorem ub{a:Func}{p:Tmp}(h:a.results=#[.cell p 147])(b:Array Value)(w:jW)(g:Nat)(c d e f i j k:jU)(l:b.getD p undef=jP g)(m:w.heap[g]?=some (jC #[c,d,e,f,i,j,k] 147)):
  (results a b).run Tryz.prog w= .ok (.agg #[c,d,e,f,i,j,k]) w:=by
 rw[gC h,l];have h1:(loadVar 147 (jA g)).run Tryz.prog w= .ok (.agg #[c,d,e,f,i,j,k]) w:=cm w g 147 147 _ (0,0) _ m Tryz.underlying147 rfl (by kernel_rfl);simp only[asAddr,dT,dr,h1]
structure yQ (w:jW) (P q:Nat) (cs:Array Value) (W:jW):Prop where
 res:W.heap[w.heap.size]?=some (jC #[jV 0,jV 0,jT ⟨#[]⟩,jQ none,jQ none,jS,jS] 147)
 blk:W.heap[q]?=some (.cells cs 147)
 gr:Gr P w W
 ltq:w.heap.size<q
 ltP:P<w.heap.size
theorem yQ.go{W':jW}(h:yQ w P q cs W)(a:Gr P W W'):yQ w P q cs W':=⟨a.blk h.res (by have:=h.ltP;omega),a.blk h.blk (by have:=h.ltP;have:=h.ltq;omega),h.gr.trans a,h.ltq,h.ltP⟩
theorem yQ.lt(h:yQ w P q cs W):q<W.heap.size:=(aC.1 h.blk).1
theorem yQ.set(h:yQ w P q cs W)(i:Nat)(v:jU):yQ w P q (cs.setIfInBounds i v) (W.setCell (jB q i) v):=
 ⟨by rw[aG _ _ _ _ (by show w.heap.size≠q;have:=h.ltq;omega)];exact h.res,aH _ _ _ _ _ _ h.blk,h.gr.set (by have:=h.ltq;omega),h.ltq,h.ltP⟩
abbrev DF(W:jW)(R:Nat)(a b c d e f g:jU):jW:=((((((W.setCell (jA R) a).setCell (jB R 1) b).setCell (jB R 2) c).setCell (jB R 3) d).setCell (jB R 4) e).setCell (jB R 5) f).setCell (jB R 6) g
theorem py{l:List eD}{d e f g i j:jU}(h:yQ w P q #[b,d,e,f,g,i,j] W)(k:w.heap.size<m)(n:ey (Fr m) W (cc t ce) [b,d,e,f,g,i,j])(p:PS W P a o c l)(r:a<w.heap.size):
  (DF W w.heap.size b d e f g i j).heap[w.heap.size]?=some (jC #[b,d,e,f,g,i,j] 147)/\ey (Fr w.heap.size) (DF W w.heap.size b d e f g i j) (cc t ce) [b,d,e,f,g,i,j]/\PS (DF W w.heap.size b d e f g i j) P a o c l/\Gr P w (DF W w.heap.size b d e f g i j):=by
 refine⟨?_,?_,?_,?_⟩
 ·exact aH _ _ _ _ _ _ (aH _ _ _ _ _ _ (aH _ _ _ _ _ _ (aH _ _ _ _ _ _ (aH _ _ _ _ _ _ (aH _ _ _ _ _ _ (aH _ _ _ _ _ _ h.res))))))
 ·refine ey.old (ey.kept ?_ _ _ n) (aL k);exact((((((eJ.set k).trans (eJ.set k)).trans (eJ.set k)).trans (eJ.set k)).trans (eJ.set k)).trans (eJ.set k)).trans (eJ.set k)
 ·exact((((((p.set h.ltP r).set h.ltP r).set h.ltP r).set h.ltP r).set h.ltP r).set h.ltP r).set h.ltP r
 ·have s:w.heap.size<=w.heap.size:=aD _;exact((((((h.gr.set s).set s).set s).set s).set s).set s).set s
theorem yQ.cells{a c d e f a6:jU}(h:yQ w P q #[a,b,c,d,e,f,a6] W):
  W.cell? (jA q)=some a/\W.cell? (jB q 1)=some b/\W.cell? (jB q 2)=some c/\W.cell? (jB q 3)=some d/\W.cell? (jB q 4)=some e/\W.cell? (jB q 5)=some f/\W.cell? (jB q 6)=some a6:=
 ⟨eo h.blk rfl,eo h.blk rfl,eo h.blk rfl,eo h.blk rfl,eo h.blk rfl,eo h.blk rfl,eo h.blk rfl⟩
theorem yQ.rcells(h:yQ w P q cs W):
  W.cell? (jA w.heap.size)=some (jV 0)/\W.cell? (jB w.heap.size 1)=some (jV 0)/\W.cell? (jB w.heap.size 2)=some (jT ⟨#[]⟩)/\W.cell? (jB w.heap.size 3)=some (jQ none)/\W.cell? (jB w.heap.size 4)=some (jQ none)/\W.cell? (jB w.heap.size 5)=some jS/\W.cell? (jB w.heap.size 6)=some jS/\(∀i,W.frozen? (jB w.heap.size i)=false):=
 ⟨eo h.res rfl,eo h.res rfl,eo h.res rfl,eo h.res rfl,eo h.res rfl,eo h.res rfl,eo h.res rfl,λi=>ea h.res i⟩
theorem Av(f:Nat)(d:Nat)(w:jW)(P g o c:Nat)(l:List eD)(h:At w P g o c d l)(hk:(hd l).k=0):
  aA 149 #[jP P,jV (d:Int)] w (nB w P g (iZ (f+1) 2 d l)):=by
 obtain⟨y,i,j⟩:=fU (hd l).t;have m:Hid (∀W,az w W->aA 59 #[jP P] W λe w'=>e=jR (.agg #[jV 0,jT y,jV ((hd l).p:Int)])/\az w w'/\Gr P W w'):=λW n=>by
  have r:=h.below n;have:=iI W P g o c (hd l) l.tail r.psc y i;rw[hk]at this;exact this.mono λe w' ⟨a,b⟩=>⟨a,n.trans (b.mono n.size),em b⟩
 have s:=jI h;have u:Hid (iZ (f+1) 2 d l=eT (gW (hd l).p l) λt v=>eT (eC [59] v) λ_ x=> .ok (t,x)):=by
  show _=_;rw[iZ,if_pos hk]
 have z:Hid (∀e w',nB w P g (iZ (f+1) 2 d l) e w'->nB w P g (iZ (f+1) 2 d l) e w'):=λ_ _ h=>h;generalize A:nB w P g (iZ (f+1) 2 d l)=G at*;clear z;have z:Hid (∀e w',nB w P g (iZ (f+1) 2 d l) e w'->G e w'):=λe w' h=>by rw[<-A];exact h
 have B:=GH;have h2:=GI;clear h hk i j A;go_enter Tryz.func149,Tryz.ntmps149
 go_wp2_with(go_at_call 59;fail)
 refine(m _ ((aJ _ _).alloc (aD _) _)).mono ?_;rintro e w1 ⟨rfl,n,C⟩;have D:Hid (w1.heap[w.heap.size]?=some (jC #[jV 0,jV 0,jT ⟨#[]⟩,jQ none,jQ none,jS,jS] 147)):=C.blk (heap_alloc_last w _) (by have:=s.ltP;omega);have E:=jI n;have F:=jI C;clear n C
 go_wp2_with(go_at_call 59;fail)
 obtain⟨H,I⟩:=aB (w1.alloc (jC #[jV 0,jV ((hd l).p:Int),jT ⟨#[]⟩,jQ none,jQ none,jS,jS] 147));obtain⟨q,J⟩:=aB w1.heap.size;have K:w.heap.size<w1.heap.size:=(aC.1 D).1;have L:Hid (yQ w P q #[jV 0,jV ((hd l).p:Int),jT ⟨#[]⟩,jQ none,jQ none,jS,jS] H):=by
  refine⟨?_,?_,?_,by omega,s.ltP⟩
  ·rw[I,ed K];exact D
  ·rw[I,J];exact heap_alloc_last w1 _
  ·rw[I];exact(em E).alloc _
 have M:Hid (Gr P (w.alloc (jC #[jV 0,jV 0,jT ⟨#[]⟩,jQ none,jQ none,jS,jS] 147)) H):=by
  show Gr _ _ _;rw[I];exact F.alloc _
 have N:Hid (az w H):=by
  show Below _ _ _;rw[I];exact E.alloc E.size _
 rw[<-I,<-J];clear I J K E D F;refine(m _ N).mono ?_;rintro e O ⟨rfl,n,C⟩;obtain⟨Q,S,T⟩:=j3 (L.go C) (s.below n) (M.trans C);clear n C L N M
 go_wp2_with(go_at_call 205;fail)
 have U:oF (w.alloc (jC #[jV 0,jV 0,jT ⟨#[]⟩,jQ none,jQ none,jS,jS] 147)):=s.env.below ((aJ _ _).alloc (aD _) _);refine(Ae (hd l).p d (w.alloc (jC #[jV 0,jV 0,jT ⟨#[]⟩,jQ none,jQ none,jS,jS] 147)) O P g q o c l S U T (by have:=Q.ltq;simp;omega) (by have:=s.ltP;have:=Q.ltq;omega) (by have:=s.ltT;have:=Q.ltq;omega) Q.blk).mono ?_;rintro e V (⟨t,v,cs,Y,Z,r,rfl,x,i,j,C⟩|⟨k,p,r,⟨b,rfl,n⟩,C⟩)
 rotate_left
 ·refine⟨rfl,z _ _ (.inr ⟨k,p,?_,⟨b,rfl,n⟩,(em ((aJ _ _).alloc (aD _) _)).trans C⟩)⟩;rw[u.out,r];rfl
 obtain⟨A,B,m,D,E,F,H,I,J,K,L,rfl⟩:=yP i;have M:Hid (yQ w P q #[jV A,jV B,jT m,jQ D,jQ E,jL F H I,jL J K L] V):=⟨C.blk (heap_alloc_last w _) (by have:=s.ltP;omega),x,(em ((aJ _ _).alloc (aD _) _)).trans C,Q.ltq,s.ltP⟩;have N:=jI i;have A:Hid (w.heap.size<O.heap.size):=by show _<_;have:=Q.ltq;have:=Q.lt;omega
 obtain⟨B,m⟩:=td r s.ends;have D:Hid (At V P g Y Z d v):=tV U C s.far j B (by have:=s.deep;omega);have E:=jI r;clear r x i j C B m U Q S T
 go_wp2_with(go_at_call 92;fail)
 refine(jY D ⟨#[59]⟩ (by decide)).mono ?_;rintro e F (⟨H,rfl,j,C,I,J⟩|⟨H,⟨b,rfl,n⟩,C⟩)
 rotate_left
 ·refine⟨rfl,z _ _ (.inr ⟨_,_,?_,⟨b,rfl,n⟩,M.gr.trans C⟩)⟩;have K:=H;rw[u.out,E.out];show eT (eC [59] v) _=_;rw[K];rfl
 have L:=M.go C;obtain⟨O,g,V,Y⟩:=j4 L (ey.kept (eJ.gr D.ps C) _ _ N) j H;obtain⟨Z,Q,S,T,U,r,x⟩:=L.cells;obtain⟨i,B,m,F,n,K,D,Z⟩:=L.rcells;have Q:¬w.heap.size=q:=by have:=L.ltq;omega
 have S:¬q=w.heap.size:=by have:=L.ltq;omega
 clear L H j C I J M N;go_wp2;obtain⟨T,U,r,x⟩:=py O A g V s.ltT
 refine bodyPost_ret (ub Tryz.results149 _ _ w.heap.size _ _ _ _ _ _ _ rfl T) rfl (z _ _ (.inl ⟨t,v.tail,_,_,_,?_,rfl,U,r,x⟩));rw[u.out,E.out];show eT (eC [59] v) _=_;rw[Y.out];rfl
end Go.Proofs.YtnfhpdbbfejioaaGreatDoor
