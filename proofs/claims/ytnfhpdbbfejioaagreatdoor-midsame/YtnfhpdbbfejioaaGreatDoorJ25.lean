/- HN HP -/
import Derived.Test.YtnfhpdbbfejioaaGreatDoorJ20
import Derived.Stop.LaidErr
import Derived.Lib.SmallJoins
import Derived.Lay
import Derived.Test.YtnfhpdbbfejioaaGreatDoorTie
import Derived.Test.YtnfhpdbbfejioaaGreatDoorCards
set_option linter.unusedVariables false
set_option linter.unusedSimpArgs false
set_option maxRecDepth 100000
set_option maxHeartbeats 16000000
namespace Go.Proofs.YtnfhpdbbfejioaaGreatDoor
open Go Go.Deep Go.ChangeShapes Go.WideShapes Go.ChangeAt Go.WideMaps Go.WideElems Go.RowKit
section
variable {H : Type} {enc : TypeId × Value → H} {P : Program} {w : World} {base : Nat} {sp : Nat → Bool} {held : Bool}
theorem ww{fuel n:Nat}{t e:TypeId}{cs:jE}{ds:List (DataW H)}{p:List MemPlace}(a:P.underlying t=some (.array n e))(h:DataW.trod enc P w base sp held fuel t cs=some (.agg ds,p))(i:Nat)(b:i<n):
  ∃c d f,ds[i]?=some d/\DataW.trod enc P w base sp held c e ((cs.drop (i*P.cellsOf e)).take (P.cellsOf e))=some (d,f):=by
 obtain⟨xs,m,rfl,g,j,k,l⟩:=DataW.trod_array a h;have h1:=l i b;simp only[cw,dD]at g;have o:i<xs.length:=by omega
 rw[aI o]at h1;exact⟨m,xs[i].1,xs[i].2,by rw[g.1];simp[o],h1⟩
theorem pw{fuel:Nat}{t:TypeId}{fs:Array Field}{cs:jE}{ds:List (DataW H)}{p:List MemPlace}(a:P.underlying t=some (.struct fs))(h:DataW.trod enc P w base sp held fuel t cs=some (.agg ds,p))(i:Nat)(f:Field)(c:fs.toList[i]?=some f):
  ∃e d g,ds[i]?=some d/\DataW.trod enc P w base sp held e f.type ((cs.drop f.offset).take (P.cellsOf f.type))=some (d,g):=by
 cases fuel with
 |zero=>simp[DataW.trod]at h
 |succ m=>
  simp only[DataW.trod,a]at h;split at h
  ·obtain⟨xs,j,k⟩:=bA.1 h;obtain⟨b,l,n⟩:=Lib.mapM_at j i f c;simp only[cw,dD]at k;exact⟨m,b.1,b.2,by rw[<-k.1];simp[l],n⟩
  ·cases h
theorem Hl{fuel:Nat}{t:TypeId}{k a:IntKind}{z:Int}{cs:jE}{p:List MemPlace}(b:P.underlying t=some (.int k))(h:DataW.trod enc P w base sp held fuel t cs=some (.lit (.int a z),p)):cs=[.int a z]:=by
 obtain⟨n,h1,h2,_⟩:=DataW.trod_int b h;simp only[cw,bV,cR]at h2;rw[h1,h2.1.1,h2.1.2]
end
section
variable {H : Type} {enc : TypeId × Value → H} {w : World} {base : Nat} {sp : Nat → Bool} {held : Bool}
theorem ot{fuel:Nat}{l:jE}{t:TypeId}{k b:IntKind}{z:Int}{a:Nat}{p:List MemPlace}(c:Tryz.prog.underlying t=some (.int k))(hc:Tryz.prog.cellsOf t=1)
  (h:DataW.trod enc Tryz.prog w base sp held fuel t ((l.drop a).take (Tryz.prog.cellsOf t))=some (.lit (.int b z),p)):l[a]?=some (.int b z):=by
 have:=Hl c h;rw[hc]at this;exact jf this 0 _ rfl
end
theorem own:ownKnob Tryz.prog.godebug=none:=by kernel_rfl
theorem Lh:laidOutB Tryz.prog=true:=by kernel_rfl
theorem Hm:Tryz.prog.cellsOf 288=2:=by kernel_rfl
theorem yJ:Tryz.prog.cellsOf 340=1:=by kernel_rfl
theorem rV{H:Type}{enc:TypeId×jU->H}{w:jW}{b:Nat}{sp:Nat->Bool}{held:Bool}{fuel:Nat}{cs:jE}{p:List MemPlace}{a:Nat}{s:By}(h:DataW.trod enc Tryz.prog w b sp held fuel 9 ((cs.drop a).take (Tryz.prog.cellsOf 9))=some (.lit (.string s),p)):cs[a]?=some (str s):=by
 obtain⟨x,h1,h2,_⟩:=DataW.trod_string Tryz.underlying9 h;simp only[cw,bV,cK]at h2;have:x=⟨s.toArray⟩:=by cases x with|mk d=>rw[h2.1]
 rw[this]at h1;have:=jf h1 0 _ rfl;simpa using this
abbrev qy:List (String×DataW Unit):=[("math/bits.deBruijn32tab",Rows.laid_math_bits_deBruijn32tab),("math/bits.deBruijn64tab",Rows.laid_math_bits_deBruijn64tab),("internal/strconv.uint64pow10",Rows.laid_internal_strconv_uint64pow10),("unicode/utf8.acceptRanges",Rows.laid_unicode_utf8_acceptRanges),("strconv.ErrRange",Rows.laid_strconv_ErrRange),("strconv.ErrSyntax",Rows.laid_strconv_ErrSyntax),("bloomery/tree.marks",Rows.laid_bloomery_tree_marks),("bloomery/tree.pairs",Rows.laid_bloomery_tree_pairs),("unicode/utf8.first",Rows.laid_unicode_utf8_first)]
theorem PM:Tryz.prog.globalNamed "bloomery/tree.marks" =some 1:=by kernel_rfl
theorem PN:(Tryz.prog.globals[1]?).map (·.type)=some 190:=by kernel_rfl
theorem PO:Tryz.prog.globalNamed "bloomery/tree.pairs" =some 6:=by kernel_rfl
theorem PP:(Tryz.prog.globals[6]?).map (·.type)=some 289:=by kernel_rfl
abbrev MT{H:Type}(r:By):DataW H:= .lit (.string r)
abbrev MU{H:Type}(r:By×Nat):DataW H:= .agg [.lit (.string r.1),.lit (.int .i64 (r.2:Int))]
theorem PQ:(Rows.laid_bloomery_tree_marks:DataW Unit)= .agg (eY.map MT):=by kernel_rfl
theorem PR:(Rows.laid_bloomery_tree_pairs:DataW Unit)= .agg (gA.map MU):=by kernel_rfl
theorem Ai{w:jW}{fuel:Nat}{cs:jE}{p:List MemPlace}(h:DataW.trod (λ_=>()) Tryz.prog w 0 (λ_=>true) false fuel 190 cs=some (.agg (eY.map MT),p))(o:Nat)(v:jU)(a:(eY.map str)[o]?=some v):cs[o]?=some v:=by
 rw[bw]at a;obtain⟨r,b,rfl⟩:=bA.1 a;have c:o<eY.length:=(aK.1 b).1;obtain⟨m,d,e,hd,h2⟩:=ww Tryz.underlying190 h o c;rw[bw,b]at hd;simp only[cO,bm]at hd;subst hd;have:=rV h2;rw[vD,dX]at this;exact this
theorem Aj{w:jW}{fuel:Nat}{cs:jE}{p:List MemPlace}(h:DataW.trod (λ_=>()) Tryz.prog w 0 (λ_=>true) false fuel 289 cs=some (.agg (gA.map MU),p))(o:Nat)(r:By×Nat)(a:gA[o]?=some r):
  cs[o*2]?=some (str r.1)/\cs[o*2+1]?=some (jV (r.2:Int)):=by
 have b:o<gA.length:=(aK.1 a).1;obtain⟨m,d,c,hd,h2⟩:=ww Tryz.underlying289 h o b;rw[bw,a]at hd;simp only[cO,bm]at hd;rw[Hm]at h2;subst hd;obtain⟨_,e,_,f,g⟩:=pw Tryz.underlying288 h2 0 _ rfl;obtain⟨_,i,_,j,h1⟩:=pw Tryz.underlying288 h2 1 _ rfl;cases f;cases j;have k:=rV g;have l:=ot Tryz.underlying3 sG h1;have n:cs[o*2+0]?=some (str r.1):=jf rfl 0 _ k;rw[cn]at n;exact⟨n,jf rfl 1 _ l⟩
theorem yK:∀(l:List (By×Nat)) (cs:jE),(∀(o:Nat)(r:By×Nat),l[o]?=some r->cs[o*2]?=some (str r.1)/\cs[o*2+1]?=some (jV (r.2:Int)))->∀(j:Nat)(v:jU),(l.flatMap λx=>[str x.1,jV (x.2:Int)])[j]?=some v->cs[j]?=some v
 |[],cs,h,j,v,a=>by simp at a
 |x::l,cs,h,0,v,a=>by
  have:=(h 0 x rfl).1;simp at a;subst a;exact this
 |x::l,cs,h,1,v,a=>by
  have:=(h 0 x rfl).2;simp at a;subst a;exact this
 |x::l,cs,h,j+2,v,a=>by
  have b:=yK l (cs.drop 2) (λo r c=>by
   have:=h (o+1) r (by simpa using c);rw[dh,dh];rw[show 2+o*2=(o+1)*2 by omega,show 2+(o*2+1)=(o+1)*2+1 by omega];exact this) j v (by simpa using a)
  rw[dh,Nat.add_comm]at b;exact b
theorem MV: "*" ++ "errors.errorString" = "*errors.errorString" :=by decide
theorem Hn(u:TypeId)(h:Tryz.prog.typeName? 3 u=some "*errors.errorString"):u=338:=
 typeName_ptr_named (nm:= "errors.errorString") (by rw[MV];kernel_rfl) (by kernel_rfl) (by decide) u (by rw[MV];exact h)
theorem Ub:(Tryz.prog.globals[12]?).map (·.type)=some 34:=by kernel_rfl
theorem Uc:(Tryz.prog.globals[13]?).map (·.type)=some 34:=by kernel_rfl
theorem Ud:(Tryz.prog.globals[7]?).map (·.type)=some 313:=by kernel_rfl
theorem Li{W:jW}(a:laidMetH Tryz.prog qy W)(b:W.ShapedOpen Tryz.prog):sS 14 W:=by
 have h:laidMet Tryz.prog qy W:=by
  rw[MakeChecks.laidMetH_plain _ _ _ (by kernel_rfl)]at a;exact a
 have h1:=h.filter (fun x=>x.1== "bloomery/tree.marks");rw[show qy.filter (fun x=>x.1== "bloomery/tree.marks")=[("bloomery/tree.marks",Rows.laid_bloomery_tree_marks)] by kernel_rfl]at h1;have h2:=h.filter (fun x=>x.1== "bloomery/tree.pairs");rw[show qy.filter (fun x=>x.1== "bloomery/tree.pairs")=[("bloomery/tree.pairs",Rows.laid_bloomery_tree_pairs)] by kernel_rfl]at h2;have c:=h.filter (fun x=>x.1== "internal/strconv.uint64pow10");rw[show qy.filter (fun x=>x.1== "internal/strconv.uint64pow10")=[("internal/strconv.uint64pow10",Lib.tabData .u64 Lib.pow10Tab)] by kernel_rfl]at c;have d:=h.filter (fun x=>x.1== "strconv.ErrSyntax");rw[show qy.filter (fun x=>x.1== "strconv.ErrSyntax")=[("strconv.ErrSyntax",.iface "*errors.errorString" (.ptr (.agg [.lit (.string [105,110,118,97,108,105,100,32,115,121,110,116,97,120])])))] by kernel_rfl]at d;have e:=h.filter (fun x=>x.1== "strconv.ErrRange");rw[show qy.filter (fun x=>x.1== "strconv.ErrRange")=[("strconv.ErrRange",.iface "*errors.errorString" (.ptr (.agg [.lit (.string [118,97,108,117,101,32,111,117,116,32,111,102,32,114,97,110,103,101])])))] by kernel_rfl]at e;obtain⟨_,⟨f,g,k,l,m,n,o,p,q,r,_,_⟩,_,_⟩:=h1;obtain rfl:=aS (PM.symm.trans o);obtain rfl:=aS (PN.symm.trans p);rw[PQ]at r;have s:∀i,W.cell? (jB 1 i)=k.toList[i]?:=fun i=>by rw[dg o q i];simp
 obtain⟨_,⟨u,w,y,z,A,B,C,D,E,F,_,_⟩,_,_⟩:=h2;obtain rfl:=aS (PO.symm.trans C);obtain rfl:=aS (PP.symm.trans D);rw[PR]at F;have G:∀i,W.cell? (jB 6 i)=y.toList[i]?:=λi=>by rw[dg C E i];simp
 obtain⟨H,I,J,_⟩:=laid_sentinel d Qb Ub Tryz.underlying34 Hn Tryz.underlying338 Tryz.underlying340 rfl rfl Tryz.underlying9 yJ vD;obtain⟨K,L,M,_⟩:=laid_sentinel e Lt Uc Tryz.underlying34 Hn Tryz.underlying338 Tryz.underlying340 rfl rfl Tryz.underlying9 yJ vD;have N:oF W:=⟨Go.Proofs.cell_of_shapedOpen_int (zero:=#[jV 0]) (t:=3) b (of_decide_eq_true (by kernel_rfl)) (by kernel_rfl) rfl (by kernel_rfl) (by kernel_rfl) Tryz.underlying3,
  λj v O=>by rw[bQ,s];exact Ai r j v O,λj v O=>by rw[bQ,G];exact yK gA _ (Aj F) j v O,⟨_,_,J⟩,⟨_,_,M⟩⟩
 exact⟨N,Lib.tabIs_of_head PG Ud Tryz.underlying313 Tryz.underlying293 (by kernel_rfl) (by kernel_rfl) c,aD _,N.lt⟩
end Go.Proofs.YtnfhpdbbfejioaaGreatDoor
