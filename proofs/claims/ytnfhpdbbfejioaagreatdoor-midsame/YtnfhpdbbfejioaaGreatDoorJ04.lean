/- GE GF HB -/
import Derived.Test.YtnfhpdbbfejioaaGreatDoorJ03
import Derived.Deep.DeepCutAuto
set_option linter.unusedVariables false
set_option linter.unusedSimpArgs false
set_option maxRecDepth 100000
set_option maxHeartbeats 16000000
namespace Go.Proofs.YtnfhpdbbfejioaaGreatDoor
open Go Go.RowKit
variable {w b a wr:jW}{v:jU}{t:TypeId}{c nm:By}{P q:Nat}{n:Int}{l r g:Tr}{xs:List Tr}
theorem pB{b:Nat}{x:jU}(h:w.heap[b]?=some (jC #[x] t)):(w.setCell (jA b) v).heap[b]?=some (jC #[v] t):=aH _ _ _ _ _ _ h
theorem kF{w':jW}{b:Nat}{o:Obj}(a:az w w')(h:w.heap[b]?=some o):w'.heap[b]?=some o:=by
 rw[a.block b (aC.1 h).1];exact h
theorem nK(w:jW)(a:Addr)(v:jU)(A:Obj):((w.setCell a v).alloc A).heap[w.heap.size]?=some A:=by
 have:=heap_alloc_last (w.setCell a v) A;simpa using this
theorem je{B:Nat}{b:Nat}(h:Below B a w)(c:B<=b):Below B a (w.setCell (jA b) v):=h.setCell (p:=(jA b)) c v
theorem Ks.refl(w:jW):Ks w w:=λ_ _ _ _ _ h=>h
theorem Ks.trans{c:jW}(h:Ks a b)(g:Ks b c):Ks a c:=λk cs t h1 h2 d=>g k cs t h1 h2 (h k cs t h1 h2 d)
theorem Ks.alloc(h:Ks a b)(A:Obj):Ks a (b.alloc A):=h.trans (Ks.below ((aJ _ _).alloc (aD _) A))
theorem Ks.call{c:jW}(h:Ks a b)(d:az b c):Ks a c:=h.trans (Ks.below d)
theorem Ks.drew(h:Ks a b):Ks a b.drew:=h
theorem Ks.put{k:Nat}(h:Ks a b)(c:b.heap[k]?=some (jC #[.nilFunc] t))(d:t=245\/t=67:=by decide):Ks a (b.setCell (jA k) v):=h.trans (Ks.set c d)
theorem AC(h:Below a.drew.heap.size a.drew b):az a b:=⟨h.os,h.tape,h.output,h.size,h.block⟩
theorem IX{W:jW}{t:Tr}{f:Nat}{v:Array Value}(a:az w W)(h:aA f v W (xK P t W)):aA f v W λe w'=>xK P t W e w'/\az w w':=h.mono λe w' b=>⟨b,by obtain⟨_,_,_,_,c⟩:=b;exact a.trans (c.mono a.size)⟩
theorem DZ{a:Int}{E:By}(hl:oP l)(A7:fw l)(hr:oP r)(A9:fw r)(S:Nat->Prop)(w:World)(P:Nat)(v:Value)(hx:ej S w (nd 3 a n nm E l r g) v):aA 190 #[ptr P,v] w (xK P (nd 3 a n nm E l r g) w):=by
 obtain⟨q,vl,vr,vg,ys,rfl,hq,H,J,-,-⟩:=iz hx;obtain⟨G,rfl⟩:=hZ A7 H;obtain⟨K,rfl⟩:=hZ A9 J;have B2:=zb;obtain⟨y,hy,A0⟩:=fU E;rw[hy]at hq;have HQ:=jI hq;have C3:q<w.heap.size:=(aC.1 hq).1;have A4:Hid (∀b,b=G->∀W,az w W->aA 138 #[ptr P,ptr b] W λe w'=>xK P l W e w'/\az w w'):=λb e W hb=>by subst e;exact IX hb (hl S W P _ (fH hb H))
 have A3:Hid (∀b,b=K->∀W,az w W->aA 138 #[ptr P,ptr b] W λe w'=>xK P r W e w'/\az w w'):=λb e W hb=>by subst e;exact IX hb (hr S W P _ (fH hb J))
 have L:Hid (str E= .string y/\y.data.toList=E):=⟨hy,A0⟩;clear hx hq H J hy A0;go_enter Tryz.func190,Tryz.ntmps190
 go_upto_region 1 with fail
 obtain⟨d,s⟩:=aB (w.alloc (.cells #[ptr q] 145));have f:Hid (az w d):=by rw[s];exact(aJ _ _).alloc (aD _) _
 have A2:d.heap.size=w.heap.size+1:=by rw[s];simp
 have F:Hid (d.heap[w.heap.size]?=some (.cells #[ptr q] 145)):=by rw[s];exact heap_alloc_last _ _
 have p2:d.cell? ⟨w.heap.size,0,none⟩=some (ptr q):=jc 0 F;have B:Hid (d.heap[q]?=some (.cells #[.int .i64 3,.int .i64 a,.int .i64 n,str nm,.string y,ptr G,ptr K,vg] 252)):=by rw[s];exact ez HQ _
 have p3:d.cell? ⟨q,5,none⟩=some (ptr G):=jc 5 B;have p4:d.cell? ⟨q,6,none⟩=some (ptr K):=jc 6 B;have C4:=jI A2;have B7:w.heap.size<d.heap.size:=by omega
 have B8:q<d.heap.size:=by omega
 have m1:w.heap.size≠d.heap.size:=by omega
 have m3:q≠d.heap.size:=by omega
 rw[<-s];clear s A2
 go_cut [5,6] (λv5 v6 wx=>∃b5 b6 T z k2 u,v5=ptr b5/\v6=ptr b6/\Hid (wx.heap[b5]?=some (.cells #[.func (.func T) #[] z] 245)/\wx.heap[b6]?=some (.cells #[.func (.func k2) #[] u] 245)/\gz wx P l (.func (.func T) #[] z)/\gz wx P r (.func (.func k2) #[] u)/\az d wx))
 case first=>
  go_region_held3(λw'=>w'.cell? ⟨w.heap.size,0,none⟩=some (ptr q)/\w'.cell? ⟨q,5,none⟩=some (ptr G)/\w'.cell? ⟨q,6,none⟩=some (ptr K))
  (first|go_keep|(refine⟨?_,?_,?_⟩<;>first|(go_simp;done)|(simp[*];done)|((repeat rw[bq (by intro e;injection e;omega)]);assumption)))
  (first
   |(go_at_call 138;refine(A4 _ (by exact rfl) _ (by repeat first|exact f|refine bF ?_|refine di ?_ (by have:=f.size;first|omega|(simp;done)|(simp;omega)) _)).mono ?_;rintro e w1 ⟨⟨T,z,rfl,Q,C⟩,Y⟩;have N:Hid (az w w1):=Y;clear Y;have k:=λb o h=>C.cell (p:=⟨b,o,none⟩) h;have O:=λb o h=>C.frozen (p:=⟨b,o,none⟩) h;have A6:w1.cell? ⟨w.heap.size,0,none⟩=some (ptr q):=(k _ _ (by first|omega|(simp;done)|(simp;omega))).trans (by go_simp);have B6:w1.cell? ⟨q,5,none⟩=some (ptr G):=(k _ _ (by first|omega|(simp;done)|(simp;omega))).trans (by go_simp);have B0:w1.cell? ⟨q,6,none⟩=some (ptr K):=(k _ _ (by first|omega|(simp;done)|(simp;omega))).trans (by go_simp);have s1:=C.size;(try simp at s1);have C1:w.heap.size<w1.heap.size:=(by omega);have C0:q<w1.heap.size:=(by omega);(try have v1:d.heap.size<w1.heap.size:=(by omega));(try have v2:d.heap.size+1<w1.heap.size:=(by omega)))
   |(go_at_call 138;refine(A3 _ (by exact rfl) _ (by repeat first|exact N|exact f|refine bF ?_|refine di ?_ (by have:=f.size;first|omega|(simp;done)|(simp;omega)) _)).mono ?_;rintro e A ⟨⟨k2,u,rfl,U,c⟩,Z⟩;have B4:Hid (az w A):=Z;clear Z;have m:=λb o h=>c.cell (p:=⟨b,o,none⟩) h;have A1:=λb o h=>c.frozen (p:=⟨b,o,none⟩) h;have B3:A.cell? ⟨w.heap.size,0,none⟩=some (ptr q):=(m _ _ (by first|omega|(simp;done)|(simp;omega))).trans (by go_simp);have B1:A.cell? ⟨q,5,none⟩=some (ptr G):=(m _ _ (by first|omega|(simp;done)|(simp;omega))).trans (by go_simp);have B5:A.cell? ⟨q,6,none⟩=some (ptr K):=(m _ _ (by first|omega|(simp;done)|(simp;omega))).trans (by go_simp);have s2:=c.size;(try simp at s2);have B9:w.heap.size<A.heap.size:=(by omega);have C2:q<A.heap.size:=(by omega);(try have v3:d.heap.size<A.heap.size:=(by omega));(try have v4:d.heap.size+1<A.heap.size:=(by omega));(try have v5:w1.heap.size<A.heap.size:=(by omega));(try have v6:w1.heap.size+1<A.heap.size:=(by omega))))
  all_goals
  go_wp2_with fail
  go_meet
  ·refine⟨_,_,T,z,k2,u,rfl,rfl,?_⟩;have M:=AC C;clear k O m A1 A6 B6 B0 B3 B1 B5 p2 p3 p4 A4 A3 L HQ B F f B2 N B4;refine⟨?_,?_,gz.kept (w:=w1) ?_ _ _ Q,gz.kept (w:=A) ?_ _ _ U,?_⟩
   ·repeat' (first|exact heap_alloc_last _ _|exact zE _ _ _|exact nK _ _ _ _|refine ez ?_ _|refine pB (x:= .nilFunc) ?_|refine kU ?_ (by omega)|refine kF c ?_|refine kF M ?_)
   ·repeat' (first|exact heap_alloc_last _ _|exact zE _ _ _|exact nK _ _ _ _|refine ez ?_ _|refine pB (x:= .nilFunc) ?_|refine kU ?_ (by omega)|refine kF c ?_|refine kF M ?_)
   ·repeat' (first|exact Ks.refl _|refine Ks.alloc ?_ _|refine Ks.put (t:=245) ?_ ?_|refine Ks.call ?_ c|exact heap_alloc_last _ _|exact zE _ _ _|exact nK _ _ _ _|refine ez ?_ _|refine pB (x:= .nilFunc) ?_|refine kU ?_ (by omega)|refine kF c ?_|refine kF M ?_)
   ·repeat' (first|exact Ks.refl _|refine Ks.alloc ?_ _|refine Ks.put (t:=245) ?_ ?_|exact heap_alloc_last _ _|exact zE _ _ _|exact nK _ _ _ _|refine ez ?_ _|refine pB (x:= .nilFunc) ?_|refine kU ?_ (by omega)|refine kF c ?_|refine kF M ?_)
   ·repeat' (first|exact aJ _ _|refine di ?_ (by first|omega|(simp;done)|(simp;omega)) _|refine je ?_ (by omega)|refine dz ?_ (c.mono (by first|omega|(simp;done)|(simp;omega)))|refine dz ?_ (M.mono (by first|omega|(simp;done)|(simp;omega))))
 case rest=>
  obtain⟨b5,b6,T,z,k2,u,rfl,rfl,j⟩:=hcut;have HX:=jI (kF j.out.2.2.2.2 F);have A5:=jI (kF j.out.2.2.2.2 B);have c1:=jc 0 HX;have c2:=jc 4 A5;have HN:Hid (mA wc w.heap.size 3 a n nm E):=⟨q,ptr G,ptr K,vg,HX,by rw[L.out.1];exact A5⟩;have I:=jI (f.trans (j.out.2.2.2.2.mono f.size));clear p2 p3 p4 B7 B8 m1 m3;by_cases ho:E=[38,38]
  ·have A8:=zD L.out.2 ho;go_wp2;go_ret;exact⟨_,_,rfl,by rw[gz];exact .inr (.inr (.inl ⟨rfl,_,_,_,_,_,by rw[if_pos ho],HN,j.out.1,j.out.2.1,j.out.2.2.1,j.out.2.2.2.1⟩)),I⟩
  ·have A8:=EX L.out.2 ho;by_cases D:E=[124,124]
   ·have V:=zD L.out.2 D;go_wp2;go_ret;exact⟨_,_,rfl,by rw[gz];exact .inr (.inr (.inl ⟨rfl,_,_,_,_,_,by rw[if_neg ho,if_pos D],HN,j.out.1,j.out.2.1,j.out.2.2.1,j.out.2.2.2.1⟩)),I⟩
   ·have V:=EX L.out.2 D;go_wp2;go_ret;exact⟨_,_,rfl,by rw[gz];exact .inr (.inr (.inl ⟨rfl,_,_,_,_,_,by rw[if_neg ho,if_neg D],HN,j.out.1,j.out.2.1,j.out.2.2.1,j.out.2.2.2.1⟩)),I⟩
theorem OJ{a:Int}{b:By}(c:oP l)(d:fw l)(f:oP r)(h:fw r):oP (nd 3 a n nm b l r g):=by
 intro S w P v j;have k:=jI j;obtain⟨q,vl,vr,m,o,rfl,p,-,-,-,-⟩:=iz j;have s:=jc 0 p;have t:q<w.heap.size:=(aC.1 p).1;have u:=jI (λW (x:az w W)=>DZ c d f h S W P _ (fH x k));clear j p;go_enter Tryz.func138,Tryz.ntmps138
 go_wp2_with(go_at_call 190;fail)
 refine(u _ (lU _ _ _)).mono ?_;rintro e w1 ⟨y,z,rfl,A,B⟩;have C:=jI (jN A B);clear A B;go_wp2;go_ret;exact⟨_,_,rfl,C.out.1,(lU _ _ _).trans (C.out.2.mono (by simp;omega))⟩
theorem Kr{a:Int}(d:oP l)(f:fw l)(j:oP r)(k:fw r):oP (nd 8 a n nm c l r g):=by
 intro S w P v m;obtain⟨q,vl,vr,s,u,rfl,y,z,A,-,-⟩:=iz m;obtain⟨C,rfl⟩:=hZ f z;obtain⟨D,rfl⟩:=hZ k A;have E:=zb;have F:=jc 0 y;have G:=jI y;have H:q<w.heap.size:=(aC.1 y).1;have I:Hid (∀b,b=C->∀W,az w W->aA 138 #[ptr P,ptr b] W λe w'=>xK P l W e w'/\az w w'):=λb e W J=>by subst e;exact IX J (d S W P _ (fH J z))
 have K:Hid (∀b,b=D->∀W,az w W->aA 138 #[ptr P,ptr b] W λe w'=>xK P r W e w'/\az w w'):=λb e W J=>by subst e;exact IX J (j S W P _ (fH J A))
 clear m y z A;go_enter Tryz.func138,Tryz.ntmps138
 go_wp2_with fail
 obtain⟨L,M⟩:=aB ((w.alloc (.cells #[ptr P] 57)).alloc (.cells #[ptr q] 145));have N:Hid (az w L):=by rw[M];exact lU _ _ _
 have O:L.heap.size=w.heap.size+2:=by rw[M];simp
 have Q:L.cell? ⟨w.heap.size,0,none⟩=some (ptr P):=by rw[M];exact jc 0 (IC _ _ _)
 have T:L.cell? ⟨w.heap.size+1,0,none⟩=some (ptr q):=by rw[M];exact jc 0 (zE _ _ _)
 have U:L.cell? ⟨q,5,none⟩=some (ptr C):=by rw[M];exact jc 5 (ez (ez G _) _)
 have V:L.cell? ⟨q,6,none⟩=some (ptr D):=by rw[M];exact jc 6 (ez (ez G _) _)
 have Y:=jI O;have Z:w.heap.size<L.heap.size:=by omega
 have c:w.heap.size+1<L.heap.size:=by omega
 have s:q<L.heap.size:=by omega
 have u:w.heap.size≠L.heap.size:=by omega
 have f:w.heap.size+1≠L.heap.size:=by omega
 have k:q≠L.heap.size:=by omega
 rw[<-M];clear M O F
 go_region_held3(λw'=>w'.cell? ⟨w.heap.size,0,none⟩=some (ptr P)/\w'.cell? ⟨w.heap.size+1,0,none⟩=some (ptr q)/\w'.cell? ⟨q,5,none⟩=some (ptr C)/\w'.cell? ⟨q,6,none⟩=some (ptr D))
  (first|go_keep|(refine⟨?_,?_,?_,?_⟩<;>first|(go_simp;done)|(simp[*];done)|((repeat rw[bq (by intro e;injection e;omega)]);assumption)))
  (first
   |(go_at_call 138;refine(I _ (by exact rfl) _ (by repeat first|exact N|refine bF ?_|refine di ?_ (by have:=N.size;first|omega|(simp;done)|(simp;omega)) _)).mono ?_;rintro e w1 ⟨⟨E,H,rfl,d,j⟩,m⟩;have y:Hid (az w w1):=m;clear m;have z:=λb o h=>j.cell (p:=⟨b,o,none⟩) h;have A:=λb o h=>j.frozen (p:=⟨b,o,none⟩) h;have J:w1.cell? ⟨w.heap.size,0,none⟩=some (ptr P):=(z _ _ (by first|omega|(simp;done)|(simp;omega))).trans (by go_simp);have G:w1.cell? ⟨w.heap.size+1,0,none⟩=some (ptr q):=(z _ _ (by first|omega|(simp;done)|(simp;omega))).trans (by go_simp);have Y:w1.cell? ⟨q,5,none⟩=some (ptr C):=(z _ _ (by first|omega|(simp;done)|(simp;omega))).trans (by go_simp);have Z:w1.cell? ⟨q,6,none⟩=some (ptr D):=(z _ _ (by first|omega|(simp;done)|(simp;omega))).trans (by go_simp);have c:=j.size;(try simp at c);have s:w.heap.size<w1.heap.size:=(by omega);have u:w.heap.size+1<w1.heap.size:=(by omega);have f:q<w1.heap.size:=(by omega);(try have F:L.heap.size<w1.heap.size:=(by omega));(try have M:L.heap.size+1<w1.heap.size:=(by omega)))
   |(go_at_call 138;refine(K _ (by exact rfl) _ (by repeat first|exact y|exact N|refine bF ?_|refine di ?_ (by have:=N.size;first|omega|(simp;done)|(simp;omega)) _)).mono ?_;rintro e O ⟨⟨k,m,rfl,c,s⟩,u⟩;have f:Hid (az w O):=u;clear u;have F:=λb o h=>s.cell (p:=⟨b,o,none⟩) h;have y:=λb o h=>s.frozen (p:=⟨b,o,none⟩) h;have M:O.cell? ⟨w.heap.size,0,none⟩=some (ptr P):=(F _ _ (by first|omega|(simp;done)|(simp;omega))).trans (by go_simp);have u:O.cell? ⟨w.heap.size+1,0,none⟩=some (ptr q):=(F _ _ (by first|omega|(simp;done)|(simp;omega))).trans (by go_simp);have f:O.cell? ⟨q,5,none⟩=some (ptr C):=(F _ _ (by first|omega|(simp;done)|(simp;omega))).trans (by go_simp);have C:O.cell? ⟨q,6,none⟩=some (ptr D):=(F _ _ (by first|omega|(simp;done)|(simp;omega))).trans (by go_simp);have D:=s.size;(try simp at D);have D:w.heap.size<O.heap.size:=(by omega);have D:w.heap.size+1<O.heap.size:=(by omega);have D:q<O.heap.size:=(by omega);(try have D:L.heap.size<O.heap.size:=(by omega));(try have D:L.heap.size+1<O.heap.size:=(by omega));(try have D:w1.heap.size<O.heap.size:=(by omega));(try have D:w1.heap.size+1<O.heap.size:=(by omega))))
 all_goals
  have D:=AC j;have A0:Hid (az L O/\gz w1 P l (.func (.func E) #[] H)/\gz O P r (.func (.func k) #[] m)):=by
   refine⟨?_,d,c⟩
   repeat' (first|exact aJ _ _|refine di ?_ (by first|omega|(simp;done)|(simp;omega)) _|refine dz ?_ (s.mono (by first|omega|(simp;done)|(simp;omega)))|refine dz ?_ (D.mono (by first|omega|(simp;done)|(simp;omega))))
  have E:Hid _:=D;have H:Hid _:=s;clear z A F y J G Y Z M u f C Q T U V d c D j s I K;go_wp2;go_ret;have D:=E.out
  have s:=H.out;refine⟨_,_,rfl,by rw[gz];(refine .inr (.inr (.inr (.inr (.inr (.inr (.inr (.inl ⟨rfl,_,_,_,_,rfl,?_,?_,gz.kept (w:=w1) ?_ _ _ A0.out.2.1,gz.kept (w:=O) ?_ _ _ A0.out.2.2⟩)))))))<;>repeat' (first|exact Ks.refl _|refine Ks.alloc ?_ _|refine Ks.put (t:=245) ?_ ?_|refine Ks.call ?_ s|exact heap_alloc_last _ _|exact zE _ _ _|exact nK _ _ _ _|refine ez ?_ _|refine pB (x:= .nilFunc) ?_|refine kU ?_ (by omega)|refine kF s ?_|refine kF D ?_)),?_⟩;refine N.trans (Below.mono (B:=L.heap.size) ?_ N.size)
  repeat' (first|exact A0.out.1|refine di ?_ (by first|omega|(simp;done)|(simp;omega)) _|refine je ?_ (by omega))
theorem JO:(Tryz.prog.info? 245).map (λi=>(i.zero,i.size,i.bytes))=some (some .nilFunc,1,8):=by kernel_rfl
theorem xz(n:Nat):madeCells Value.nilFunc.cells (n*1)=(List.replicate n Value.nilFunc).toArray:=by
 apply cT;rw[dX];show(madeCells #[Value.nilFunc] n).toList=_;rw[toList_madeCells_one]
theorem EM(n:Nat)(a:n<=1000000)(w:jW):(Instr.makeSlice 297 (jV (n:Int)) (jV (n:Int))).run Tryz.prog w= .ok (jL (some (jA w.heap.size)) n n) (w.alloc (jC (List.replicate n Value.nilFunc).toArray 245)):=by
 obtain⟨i,b,c,d,e⟩:=info_parts JO;have:=cQ w 297 245 i _ Tryz.underlying297 b c .i64 .i64 (n:Int) (n:Int) (by omega) (by omega) (by rw[d];simp;omega) (by rw[e];omega) (by omega);rw[d]at this;simp only[aR,xz]at this;exact this
theorem xA{S:Nat->Prop}:∀(xs:List Tr)(a:jE),ej S w (chain xs) (.tuple a.toArray)->a.length=xs.length/\∀(i:Nat)(x:Tr)(y:jU),xs[i]?=some x->a[i]?=some y->ej S w x y
 |[],a,h=>by
  unfold chain at h;rw[ej]at h;have:a=[]:=by simpa using h
  subst this;exact⟨rfl,λi x y b=>by simp at b⟩
 |x::xs,a,h=>by
  unfold chain at h;rw[ej]at h;obtain⟨y,ys',e,h1,h2⟩:=h;have c:a=y::ys':=by simpa using e
  subst c;obtain⟨d,f⟩:=xA xs ys' h2;refine⟨by simp[d],λi g j b k=>?_⟩;cases i with
  |zero=>
   simp only[bD,bm]at b k;subst b k;exact h1
  |succ i=>
   simp only[bL]at b k;exact f i g j b k
theorem EN:∀(xs:List Tr)(zs:jE),zs.length=xs.length->(∀(i:Nat)(x:Tr)(u:jU),xs[i]?=some x->zs[i]?=some u->gz w P x u)->gz w P (chain xs) (.tuple zs.toArray)
 |[],zs,a,_=>by
  have:zs=[]:=by simpa using a
  subst this;unfold chain;rw[gz]
 |x::xs,zs,a,h=>by
  cases zs with
  |nil=>simp at a
  |cons z zs=>
   unfold chain;rw[gz];exact⟨z,zs,rfl,h 0 x z rfl rfl,EN xs zs (by simpa using a) λi b u c d=>h (i+1) b u (by simpa using c) (by simpa using d)⟩
theorem EO{e n:Nat}{a:jE}(h:w.ownsRow 0 e 1 v n a):∃b c,v=jL b n c/\∀(i:Nat)(y:jU),a[i]?=some y->∃g d,b=some (jA g)/\w.heap[g]?=some (.cells d e)/\d[i]?=some y:=by
 obtain⟨h1,⟨rfl,rfl⟩|⟨g,f,d,rfl,_,j,hc,_,_,k⟩⟩:=h
 ·have e:a=[]:=by simpa using h1
  subst e;exact⟨none,0,rfl,λi y l=>by simp at l⟩
 ·refine⟨_,f,rfl,λi y l=>⟨g,d,rfl,j,?_⟩⟩;rw[<-k,bZ]at l;split at l
  ·simpa using l
  ·cases l
structure Qz (w:jW) (P q:Nat) (xs:List Tr) (n:Nat) (wr:jW) (i:Nat):Prop where
 at':∃zs:jE,zs.length=i/\az w wr/\w.heap.size+1+1+1<wr.heap.size/\wr.heap[w.heap.size]?=some (jC #[ptr P] 57)/\wr.heap[w.heap.size+1]?=some (jC #[ptr q] 145)/\
  wr.heap[w.heap.size+1+1]?=some (jC (zs++List.replicate (n-i) Value.nilFunc).toArray 245)/\wr.heap[w.heap.size+1+1+1]?=some (jC #[jL (some ⟨w.heap.size+1+1,0,none⟩) n n] 297)/\
  ∀(j:Nat)(x:Tr)(u:jU),xs[j]?=some x->zs[j]?=some u->gz wr P x u
theorem EQ(w:jW)(P q:Nat)(xs:List Tr)(n:Nat):Qz w P q xs n ((((w.alloc (jC #[ptr P] 57)).alloc (jC #[ptr q] 145)).alloc (jC (Array.replicate n Value.nilFunc) 245)).alloc (jC #[jL (some ⟨w.heap.size+1+1,0,none⟩) n n] 297)) 0:=by
 have a:Array.replicate n Value.nilFunc=(List.replicate n Value.nilFunc).toArray:=by simp
 rw[a];refine⟨⟨[],rfl,((lU _ _ _).alloc (by simp;omega) _).alloc (by simp;omega) _,by simp,ez (ez (IC _ _ _) _) _,ez (ez (zE _ _ _) _) _,?_,?_,λj x u _ b=>by simp at b⟩⟩
 ·refine ez ?_ _;have:=heap_alloc_last ((w.alloc (jC #[ptr P] 57)).alloc (jC #[ptr q] 145)) (jC (List.replicate n Value.nilFunc).toArray 245);simpa using this
 ·have:=heap_alloc_last (((w.alloc (jC #[ptr P] 57)).alloc (jC #[ptr q] 145)).alloc (jC (List.replicate n Value.nilFunc).toArray 245)) (jC #[jL (some ⟨w.heap.size+1+1,0,none⟩) n n] 297);simpa using this
theorem xB(zs:jE)(n i:Nat)(u:jU)(a:zs.length=i)(b:i<n):(zs++List.replicate (n-i) Value.nilFunc).toArray.setIfInBounds i u=((zs++[u])++List.replicate (n-(i+1)) Value.nilFunc).toArray:=by
 obtain⟨k,hk⟩:∃k,n-i=k+1:=⟨n-i-1,by omega⟩;have e:n-(i+1)=k:=by omega
 rw[hk,e];simp only[dH];rw[List.set_append_right _ _ (by omega),a,cD,dE];simp
theorem AZ(zs:jE)(n i:Nat)(a:zs.length=i)(b:i<n):(zs++List.replicate (n-i) Value.nilFunc).toArray[i]?=some Value.nilFunc:=by
 simp only[dv];rw[aX (by omega),a,cD,dl];simp;omega
theorem JP{n:Nat}{w1:jW}{i:Nat}{x:Tr}{u:jU}(h:Qz w P q xs n wr i)(a:i<n)(c:xs[i]?=some x)(d:az wr w1)(hc:gz w1 P x u):Qz w P q xs n (w1.setCell ⟨w.heap.size+1+1,i,none⟩ u) (i+1):=by
 obtain⟨zs,f,h1,g,h2,k,l,m,o⟩:=h.at';have r:w1.heap[w.heap.size+1+1]?=some (jC (zs++List.replicate (n-i) Value.nilFunc).toArray 245):=by rw[d.block _ (by omega)];exact l
 have s:Ks w1 (w1.setCell ⟨w.heap.size+1+1,i,none⟩ u):=Ks.set' (.inl rfl) r (by simp;right;omega);have t:∀b,b<wr.heap.size->b≠w.heap.size+1+1->(w1.setCell ⟨w.heap.size+1+1,i,none⟩ u).heap[b]?=wr.heap[b]?:=λb v y=>by rw[aG _ _ _ _ y,d.block b v]
 refine⟨⟨zs++[u],by simp[f],(h1.trans (d.mono (by omega))).setCell (p:=⟨w.heap.size+1+1,i,none⟩) (by show w.heap.size<=w.heap.size+1+1;omega) _,?_,by rw[t _ (by omega) (by omega)];exact h2,by rw[t _ (by omega) (by omega)];exact k,?_,by rw[t _ (by omega) (by omega)];exact m,λj z A B C=>?_⟩⟩
 ·have:=d.size;have e:(w1.setCell ⟨w.heap.size+1+1,i,none⟩ u).heap.size=w1.heap.size:=by simp[World.setCell]
  omega
 ·rw[<-xB zs n i u f a];exact aH _ _ _ _ _ _ r
 ·refine gz.kept s _ _ ?_;by_cases D:j<i
  ·rw[aW (by omega)]at C;exact(o j z A B C).below d
  ·rw[aX (by omega)]at C;obtain rfl:j=i:=by
    have:=(aK.1 C).1;simp at this;omega
   rw[f,cD]at C;simp only[bD,bm]at C;subst C;rw[c]at B;injection B with B;subst B;exact hc
theorem Oe{n:Nat}{a b:Int}{vl vr d:jU}(h:Qz w P q xs n wr n)(e:n=xs.length)(f:w.heap[q]?=some (jC #[jV 5,jV a,jV b,str nm,str c,vl,vr,d] 252)):
  xK P (nd 5 a b nm c l r (chain xs)) w (jR (.func (.func 229) #[] #[ptr w.heap.size,ptr (w.heap.size+1),ptr (w.heap.size+1+1+1)])) wr:=by
 obtain⟨zs,g,h1,i,h2,j,k,m,o⟩:=h.at';rw[cD,List.replicate_zero,bT]at k;refine⟨_,_,rfl,?_,h1⟩;rw[gz];refine .inr (.inr (.inr (.inr (.inl ⟨rfl,w.heap.size,w.heap.size+1,w.heap.size+1+1+1,w.heap.size+1+1,zs,rfl,h2,⟨q,vl,vr,d,j,?_⟩,by rw[g];exact m,k,EN xs zs (by omega) o⟩))));rw[h1.block q (aC.1 f).1];exact f
theorem xC{a c:Int}{d:By}(f:∀x∈xs,oP x/\fw x)(j:xs.length<=1000000)(S:Nat->Prop)(w:World)(P:Nat)(v:Value)(k:ej S w (nd 5 a c nm d l r (chain xs)) v):aA 192 #[ptr P,v] w (xK P (nd 5 a c nm d l r (chain xs)) w):=by
 obtain⟨q,vl,vr,m,s,rfl,t,-,-,u,z⟩:=iz k;obtain⟨A,B⟩:=xA xs s z;obtain⟨C,D,rfl,E⟩:=EO u;obtain⟨n,F⟩:=aB s.length;have H:Hid (n=xs.length/\n=s.length):=⟨by rw[F,A],F⟩;have I:n<=1000000:=by rw[F,A];exact j
 rw[<-F]at t;have J:=jc 7 t;have K:=zb;have L:=EM n I;have M:q<w.heap.size:=(aC.1 t).1;have N:q≠w.heap.size:=by omega
 have O:q≠w.heap.size+1:=by omega
 have Q:q≠w.heap.size+1+1:=by omega
 have T:q≠w.heap.size+1+1+1:=by omega
 obtain⟨U,V,Y,Z⟩:=j4 t E B f;clear k t u z A B E F j f;generalize m:xK P (nd 5 a c nm d l r (chain xs)) w=G;have K:=jI m;clear m;go_enter Tryz.func192,Tryz.ntmps192
 go_upto_region 2 with fail
 have I:=EQ w P q xs n;obtain⟨L,N⟩:=aB ((((w.alloc (.cells #[ptr P] 57)).alloc (.cells #[ptr q] 145)).alloc (.cells (Array.replicate n Value.nilFunc) 245)).alloc (.cells #[.slice (some ⟨w.heap.size+1+1,0,none⟩) n n] 297));rw[<-N]at I⊢;have O:=jI I;have Q:L.cell? ⟨w.heap.size+1,0,none⟩=some (ptr q):=by obtain⟨zs,T,h1,f,h2,t,u,z,j⟩:=I.at';exact jc 0 t
 have A:L.cell? ⟨q,7,none⟩=some (.slice C n D):=by obtain⟨zs,T,h1,f,h2,t,u,z,j⟩:=I.at';rw[h1.cell (p:=⟨q,7,none⟩) M];exact J
 clear N I J
 go_wp2_with fail
 clear Q A
 go_loopw [19] (λv wr=>∃i:Nat,i<=n/\v= .int .i64 i/\Hid (Qz w P q xs n wr i)) (λv _=>n-(intOf v).toNat)
 case atStart=>exact⟨0,aQ _,rfl,O⟩
 case round=>
  obtain⟨i,B,rfl,E⟩:=hrel;by_cases F:i<n
  ·obtain⟨x,k⟩:∃x,xs[i]?=some x:=⟨xs[i]'(by rw[<-H.out.1];exact F),aI _⟩;obtain⟨y,c⟩:∃y,s[i]?=some y:=⟨s[i]'(by rw[<-H.out.2];exact F),aI _⟩;obtain⟨g,d,rfl,m,C⟩:=V i y c;have D:=Y i x y k c;obtain⟨J,M⟩:=Z x (aM k);obtain⟨I,rfl⟩:=hZ M D;obtain⟨zs,T,h1,f,h2,t,u,z,j⟩:=E.at';have L:wr.cell? ⟨g,i,none⟩=some (ptr I):=eo (by rw[h1.block g (aC.1 m).1];exact m) C;have N:wr.cell? ⟨w.heap.size,0,none⟩=some (ptr P):=jc 0 h2;have O:wr.cell? ⟨w.heap.size+1+1+1,0,none⟩=some (.slice (some ⟨w.heap.size+1+1,0,none⟩) n n):=jc 0 z;have Q:=eo u (AZ zs n i T F);have A:wr.frozen? ⟨w.heap.size+1+1,i,none⟩=false:=by simp[World.frozen?,u]
   have B:w.heap.size<wr.heap.size:=by omega
   have s:=jI h1;have d:=jI k;have V:Hid (∀W,az w W->aA 138 #[ptr P,ptr I] W (xK P x W)):=λW Y=>J S W P _ (fH Y D);have Z:(i:Int)<(n:Int):=by omega
   clear k c m C D J M h1 h2 t u z j T
   go_wp2_with fail
   go_region_held3(λw'=>w'.cell? ⟨w.heap.size,0,none⟩=some (ptr P)/\w'.cell? ⟨w.heap.size+1+1+1,0,none⟩=some (.slice (some ⟨w.heap.size+1+1,0,none⟩) n n))
    (first|(go_keep;done)|((try dsimp only);refine⟨?_,?_⟩<;>first|(go_keep;done)|(go_simp;done)|(simp[*];done)|(rw[bq (by intro e;injection e;omega)];assumption)))
    (first|(go_at_call 138;refine(V _ (s.drew)).mono ?_;rintro e w1 ⟨f,L,rfl,N,O⟩;have Q:=λb o h=>O.cell (p:=⟨b,o,none⟩) h;have A:=λb o h=>O.frozen (p:=⟨b,o,none⟩) h;have B:w1.cell? ⟨w.heap.size,0,none⟩=some (ptr P):=(Q _ _ (by simp;omega)).trans (by go_simp);have I:w1.cell? ⟨w.heap.size+1+1+1,0,none⟩=some (.slice (some ⟨w.heap.size+1+1,0,none⟩) n n):=(Q _ _ (by simp;omega)).trans (by go_simp);have Y:w1.cell? ⟨w.heap.size+1+1,i,none⟩=some Value.nilFunc:=(Q _ _ (by simp;omega)).trans (by go_simp);have j:w1.frozen? ⟨w.heap.size+1+1,i,none⟩=false:=(A _ _ (by simp;omega)).trans (by go_simp);have k:Hid (Qz w P q xs n (w1.setCell ⟨w.heap.size+1+1,i,none⟩ (.func (.func f) #[] L)) (i+1)):=JP E F d (ke O) N;clear Q A N O))
   go_wp2;exact⟨⟨i+1,by omega,by go_num,k⟩,by simp[intOf];omega⟩
  ·have T:i=n:=by omega
   subst T;have t:Hid (G (.returned (.func (.func 229) #[] #[ptr w.heap.size,ptr (w.heap.size+1),ptr (w.heap.size+1+1+1)])) wr):=by
    show G _ _;rw[<-K.out];exact Oe E H.out.1 U
   go_wp2;exact t
theorem JQ{a b:Int}(d:∀x∈xs,oP x/\fw x)(f:xs.length<=1000000):oP (nd 5 a b nm c l r (chain xs)):=by
 intro S w P v g;have h:=jI g;obtain⟨q,vl,vr,j,k,rfl,m,-,-,-,-⟩:=iz g;have n:=jc 0 m;have o:q<w.heap.size:=(aC.1 m).1;have p:=jI (λW (s:az w W)=>xC d f S W P _ (fH s h));clear g m;go_enter Tryz.func138,Tryz.ntmps138
 go_wp2_with(go_at_call 192;fail)
 refine(p _ (lU _ _ _)).mono ?_;rintro e w1 ⟨t,u,rfl,y,z⟩;have A:=jI (jN y z);clear y z;go_wp2;go_ret;exact⟨_,_,rfl,A.out.1,(lU _ _ _).trans (A.out.2.mono (by simp;omega))⟩
end Go.Proofs.YtnfhpdbbfejioaaGreatDoor
