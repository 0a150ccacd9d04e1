/- QK SA SB SC SD SE SF SG SH -/
import Derived.Test.YtnfhpdbbfejioaaGreatDoorJ17
import Derived.Test.YtnfhpdbbfejioaaGreatDoorJ16
import Derived.Test.YtnfhpdbbfejioaaGreatDoorJ13
set_option linter.unusedVariables false
set_option linter.unusedSimpArgs false
set_option maxRecDepth 100000
set_option maxHeartbeats 16000000
namespace Go.Proofs.YtnfhpdbbfejioaaGreatDoor.Mid
open Go Go.RowKit
variable {k p:Int}{n a:Nat}{F:Mf}{nm:By}
def Ng{α:Type}(n:Nat)(x:ld α):Prop:=∀s,s.fuel.toNat<n->∀out,x s≠.error (99,out)
theorem pQ{α:Type}(n:Nat)(a:α):Ng n (gp a):=λs _ out h=>by cases h
theorem xH{α:Type}(n:Nat)(hk:k≠99):Ng n (gt k:ld α):=λs _ out h=>by injection h with h;injection h with h _;exact hk h
theorem rv{α b:Type}{x:ld α}{f:α->ld b}(c:Ng n x)(d:Fl x)(g:∀a,Ng n (f a)):Ng n (gb x f):=λs i out h=>by
 unfold gb at h;cases e:x s with
 |error k=>
  rw[e]at h;injection h with h;subst h;exact c s i out e
 |ok p=>
  obtain⟨a,j⟩:=p;rw[e]at h;have:=d s a j e;exact g a j (by omega) out h
theorem Oo{b:Type}{f:Unit->ld b}(c:∀a,Ng n (f a)):Ng (n+1) (gb Dr f):=λs d out h=>by
 by_cases e:s.fuel<=0
 ·rw[gS (tN e)]at h;cases h
 ·rw[ft (oC e)]at h;exact c () _ (by show(s.fuel-1).toNat<n;omega) out h
theorem Bl{α:Type}(hk:k≠99){c:Sg->Prop}[∀s,Decidable (c s)]{y:Sg->α×Sg}:Ng n (λs=>if c s then .error (k,s.out) else .ok (y s):ld α):=λs _ out h=>by
 dsimp only at h;split at h
 ·injection h with h;injection h with h _;exact hk h
 ·cases h
theorem J_(n:Nat)(c:By)(a b:Int):Ng n (gU c a b):=by
 unfold gU;split
 ·refine xH n ?_;rename_i h;intro e;have:(gj c a b).2=0\/(gj c a b).2=2:=by
   unfold gj
   repeat' split
   all_goals simp
  omega
 ·exact pQ n _
theorem EZ(fs:By->Option Mf):∀g d F k o,Ng g (iK fs g d F k o)
 |0=>λd F k o s a=>by omega
 |g+1=>λd F k o=>by
  have b:=EZ fs g;rw[uz];refine Oo (λ_=>?_);split
  ·exact xH g (by decide)
  ·split
   ·exact pQ g _
   split
   ·exact b _ _ _ _
   split
   ·split<;>exact b _ _ _ _
   split
   ·exact rv (by unfold lO;exact Bl (by decide)) (pC _) (λ_=>b _ _ _ _)
   split
   ·exact rv (by unfold qm;exact Bl (by decide)) (su _ _ _) (λ_=>b _ _ _ _)
   split
   ·exact b _ _ _ _
   ·refine rv ?_ (vu (wO fs g) _ _ _) (λ_=>b _ _ _ _);unfold eI;split
    ·exact pQ g _
    split
    ·exact rv (J_ g _ _ _) (pF _ _ _) (λ_=>pQ g _)
    split
    ·split
     ·exact xH g (by decide)
     ·split
      ·exact xH g (by decide)
      ·exact rv (b _ _ _ _) (wO fs g _ _ _ _) (λ_=>pQ g _)
    split
    ·unfold qj;exact Bl (by decide)
    split
    ·exact rv (λs _ out h=>by cases h) (sr _) (λ_=>pQ g _)
    split
    ·exact rv (by unfold lQ;exact Bl (by decide)) (pE _ _) (λ_=>pQ g _)
    split
    ·exact rv (λs _ out h=>by cases h) pD (λ_=>pQ g _)
    ·exact pQ g _
theorem Ka(fs:By->Option Mf)(g d:Nat)(F:Mf)(o:List Vl):Ng g (fK fs g d F o):=by
 unfold fK;split
 ·exact xH g (by decide)
 ·exact EZ fs g _ _ _ _
theorem Bn(h:ng F p k=true):In F p:=by
 unfold ng at h;simp at h;exact h.1
theorem sN(h:jD F p k=true)(hk:k≠0):In F p:=by
 unfold jD at h;simp[hk]at h;exact Bn h
theorem Kb{fs:By->Option Mf}{l:List Int}(h:kA F (fs nm) l=true)(a:∀nm G,fs nm=some G->fe G=true):∃G,fs nm=some G/\(l.length:Int)=G.params/\l.length<=G.types.length/\∀x∈l,In F x:=by
 cases b:fs nm with
 |none=>rw[b]at h;cases h
 |some G=>
  rw[b]at h;have h2:=a nm G b;unfold kA at h;simp only[bo,decide_eq_true_eq]at h;have c:l.length<=G.types.length:=by
   unfold fe at h2;simp at h2;omega
  refine⟨G,rfl,h.1,c,λx d=>?_⟩;obtain⟨j,e⟩:=a7 d;have f:=(aK.1 e).1;have g:(l.zip G.types)[j]?=some (x,G.types[j]):=by
   rw[cV];exact⟨e,aI _⟩
  exact Bn (bz.1 h.2 _ (aM g))
theorem Rf{fs:By->Option Mf}{s:Ms}(h:jb fs F s=true)(a:∀nm G,fs nm=some G->fe G=true):Ji fs F s:=by
 unfold jb Hs at h;simp only[bo,decide_eq_true_eq]at h;obtain⟨h1,⟨hd,b,c,hc⟩,d,f⟩:=h;unfold od at f;refine⟨h1,λe=>?_,λe=>?_,λe=>?_,λe=>?_,λe=>?_,λe=>?_⟩
 ·rcases e with e|e|e|e|e|e|e|e
  ·rw[e]at hd;exact sN hd (by decide)
  ·rw[if_pos e]at f;simp only[Bool.or_eq_true,bo]at f;rcases f with f|f<;>exact Bn f.1
  all_goals
   rw[e]at hd;exact sN hd (by decide)
 ·rcases e with e|e|e|e|e|e|e|e|e
  ·rw[if_pos e]at f;simp only[Bool.or_eq_true,bo]at f;rcases f with f|f<;>exact Bn f.2
  all_goals
   rw[e]at b;exact sN b (by decide)
 ·rcases e with e|e|e
  all_goals
   rw[e]at c;exact sN c (by decide)
 ·rw[e]at hc;exact sN hc (by decide)
 ·have g:(fA F.steps s.label).isSome=true:=by
   rcases e with e|e
   all_goals
    rw[e]at d;simpa[l9] using d
  exact dN.1 g
 ·rw[if_neg (by omega),if_neg (by omega),if_pos e]at f;obtain⟨G,i,j,k,l⟩:=Kb f a;exact⟨G,i,k,l⟩
structure TM (L:List Mf):Prop where
 le:L.length<=12
 nd:(L.map (·.name)).Nodup
 mn:∃F,iQ L iC=some F/\F.params=0
 pl:∀F∈L,fe F=true
 rt:∀F∈L,gM (iQ L) F=true
theorem TN{L:List Mf}(h:gy L=true):TM L:=by
 unfold gy t_ at h;simp only[bo,decide_eq_true_eq]at h;obtain⟨h1,h2,a,d,c⟩:=h;refine⟨h1,h2,?_,bz.1 d,bz.1 c⟩;unfold mX at a;split at a
 ·rename_i F b;exact⟨F,b,by simpa using a⟩
 ·cases a
theorem Bo{L:List Mf}(h:iQ L nm=some F):F∈L/\F.name=nm:=⟨bu h,by simpa using dB h⟩
theorem Rg{fs:By->Option Mf}(h:gM fs F=true):(1<=F.steps.length/\F.steps.length<=6000)/\oN F=true/\gB F.steps/\∀s∈F.steps,jb fs F s=true:=by
 unfold gM xf at h;simp only[bo,decide_eq_true_eq]at h;exact⟨h.1,h.2.1,h.2.2.1,bz.1 h.2.2.2⟩
theorem Rh{w:jW}{k:Nat}{l:List Ms}(h:Mp 3 w a (n_ l) k):QT w a l:=λW b x c=>by
 have:=(h.kept (b a h.lt)).look Sb yG (tF W) (yF x c);rw[this];show Result.ok (((fA l x).map λ(k:Nat)=>Value.int .i64 (k:Int)).getD (jV 0)) W=_;cases fA l x<;>rfl
theorem Oq(h:oN F=true):∃s,F.steps[F.steps.length-1]?=some s/\(s.code=8\/s.code=4):=by
 unfold oN at h;split at h
 ·rename_i s a;exact⟨s,a,by simpa using h⟩
 ·cases h
theorem Ov{X:Mx}{cb g p c m:Nat}{L:List Mf}{f:Lit->Option Value}(b:TM L)(hc:gN X.wc cb (some (jB g p)) c L)(d:X.fs=iQ L)(h:X.fv= .map (some a))(i:Mp 9 X.wc a f m)(l:∀nm F,iQ L nm=some F->∃j n k,L[j]?=some F/\f (.string nm)=some (Iy g (p+j*4) n)/\Mp 3 X.wc n (n_ F.steps) k):ux X:=by
 refine⟨λnm F o=>?_⟩;rw[d]at o;obtain⟨j,n,k,q,r,t⟩:=l nm F o;obtain⟨u,v⟩:=Bo o;have w:eX X.wc g (p+j*4) F:=by
  rcases hc.fn with h2|⟨g',x,e,h2⟩
  ·rw[h2]at q;simp at q
  ·injection e with e;injection e with e1 e2;subst e1 e2;exact h2 j F q
 obtain⟨y,z,A,B⟩:=Rg (b.rt F u);refine⟨g,p+j*4,n,⟨w,Rh t,λs C=>?_,Oq z⟩,λW D=>?_⟩
 ·rw[d];exact Rf (B s C) (λnm G E=>b.pl G (Bo E).1)
 ·rw[h];have hk:keyOf Tryz.prog 9 (.string ⟨nm.toArray⟩)=some (.string nm):=by
   have:=rI ⟨nm.toArray⟩ (by have:=w.i2.1;rw[v]at this;simpa[ByteArray.size] using this);simpa using this
  have:=(i.kept (D a i.lt)).look IM Ni (Qn W) hk;rw[this,r];rfl
def gO(g:Nat)(L:List Mf)(inp:List Int)(fuel:Int):Int×Int×List Int:=
 if gy L=true then(match iQ L iC with
  |none=>(9,0,[])
  |some F=>(match fK (iQ L) g 0 F (List.replicate F.types.length (0,none)) ⟨fuel,inp,[],[]⟩ with
   | .error (w,out)=>(w,0,out)
   | .ok (z,s)=>(1,z,s.out)))
 else(9,0,[])
end Go.Proofs.YtnfhpdbbfejioaaGreatDoor.Mid
namespace Go.Proofs.YtnfhpdbbfejioaaGreatDoor.Mid.Sf
open Go Go.RowKit
def Gq{α:Type}(x y:ld α):Prop:=∀s,(∃out,x s= .error (99,out))\/y s=x s
theorem lh{α:Type}(x:ld α):Gq x x:=λs=> .inr rfl
theorem QI{α:Type}(y:ld α):Gq (gt 99) y:=λs=> .inl ⟨s.out,rfl⟩
theorem wI{α b:Type}{x y:ld α}{f h:α->ld b}(c:Gq x y)(d:∀a,Gq (f a) (h a)):Gq (gb x f) (gb y h):=λs=>by
 rcases c s with⟨out,e⟩|e
 ·exact .inl ⟨out,gS e⟩
 ·unfold gb;rw[e];cases x s with
  |error k=>exact .inr rfl
  |ok p=>exact d p.1 p.2
theorem nI{α:Type}{c:Prop}[Decidable c]{x y a b:ld α}(d:Gq x a)(e:Gq y b):Gq (if c then x else y) (if c then a else b):=by
 split
 ·exact d
 ·exact e
theorem LU(fs:By->Option Mf):∀g d F k o,Gq (iK fs g d F k o) (iK fs (g+1) d F k o)
 |0=>λd F k o=>QI _
 |g+1=>λd F k o=>by
  have a:=LU fs g;rw[uz,uz];refine wI (lh _) λ_=>?_;cases F.steps[k]? with
  |none=>exact lh _
  |some s=>
   dsimp only;refine nI (lh _) (nI (a _ _ _ _) (nI (nI (a _ _ _ _) (a _ _ _ _)) (nI (wI (lh _) λ_=>a _ _ _ _) (nI (wI (lh _) λ_=>a _ _ _ _) (nI (a _ _ _ _) (wI ?_ λ_=>a _ _ _ _))))));unfold eI;refine nI (lh _) (nI (lh _) (nI ?_ (lh _)));cases fs s.name with
   |none=>exact lh _
   |some G=>exact nI (lh _) (wI (a _ _ _ _) λ_=>lh _)
def oq(fs:By->Option Mf)(d:Nat)(F:Mf)(k:Nat)(o:List Vl):ld Int:=λs=>iK fs (s.fuel.toNat+1) d F k o s
theorem nJ{fs:By->Option Mf}{d:Nat}{F:Mf}{k:Nat}{o:List Vl}{s:Sg}:∀{g:Nat},s.fuel.toNat<g->iK fs g d F k o s=oq fs d F k o s
 |0,h=>by omega
 |g+1,h=>by
  by_cases e:s.fuel.toNat=g
  ·unfold oq;rw[e]
  ·have a:s.fuel.toNat<g:=by omega
   rw[<-nJ a];rcases LU fs g d F k o s with⟨out,b⟩|b
   ·exact absurd b (EZ fs g d F k o s a out)
   ·exact b
abbrev TS:=aa
abbrev TG(α:Type):=ae α
def li(s:TS)(f:Nat):Sg:=⟨(f:Int),s.inp,s.out,s.hp⟩
def wJ{α:Type}(x:TG α)(y:ld α):Prop:=∀s f,y (li s f)=match x s with
 | .ok (a,b)=> .ok (a,li b f)
 | .error e=> .error e
theorem DV(n:Int):wJ (af n) (lO n):=λs f=>by
 unfold lO af;by_cases h:200<=s.out.length
 ·rw[if_pos h,if_pos (show 200<=(li s f).out.length from h)];rfl
 ·rw[if_neg h,if_neg (show ¬200<=(li s f).out.length from h)];rfl
theorem DW:wJ ah rE:=λs f=>rfl
theorem IR(n:Int):wJ (ai n) (qj n):=λs f=>by
 unfold qj ai;by_cases h:n<0\/40<n
 ·rw[if_pos h,if_pos h];rfl
 ·rw[if_neg h,if_neg h];rfl
theorem Nn(s:TS)(f:Nat)(q:Option Nat):ie (li s f) q=aj s q:=by cases q<;>rfl
theorem IU(q:Option Nat):wJ (ak q) (zX q):=λs f=>by
 unfold zX ak;rw[Nn]
theorem DX(q:Option Nat)(i:Int):wJ (ap q i) (lQ q i):=λs f=>by
 unfold lQ ap;rw[Nn];by_cases h:i<0\/((aj s q).length:Int)<=i
 ·rw[if_pos h,if_pos h];rfl
 ·rw[if_neg h,if_neg h]
theorem IW(q:Option Nat)(i n:Int):wJ (aq q i n) (qm q i n):=λs f=>by
 unfold qm aq;rw[Nn];by_cases h:i<0\/((aj s q).length:Int)<=i
 ·rw[if_pos h,if_pos h];rfl
 ·rw[if_neg h,if_neg h];rfl
theorem qL{α:Type}(a:α):wJ (ar a) (gp a):=λs f=>rfl
theorem vd{α b:Type}{x:TG α}{y:ld α}{p:α->TG b}{q:α->ld b}(h:wJ x y)(c:∀a,wJ (p a) (q a)):wJ (au x p) (gb y q):=λs f=>by
 unfold gb au;rw[h s f];cases x s with
 |error e=>rfl
 |ok r=>exact c r.1 r.2 f
theorem DY{c:By}(d:c∈([[43],[45],[42],[47],[37],[61,61],[33,61],[60],[60,61],[62],[62,61]]:List By))(a b:Int):wJ (aw c a b) (gU c a b):=by
 simp only[aY,dy,or_false]at d;have e:wJ (aw [47] a b) (gU [47] a b):=by
  by_cases g:b=0
  ·intro s f;simp[gU,gj,aw,g,gt,ax];rfl
  ·intro s f;simp[gU,gj,aw,g,gp,ar]
 have h:wJ (aw [37] a b) (gU [37] a b):=by
  by_cases g:b=0
  ·intro s f;simp[gU,gj,aw,g,gt,ax];rfl
  ·intro s f;simp[gU,gj,aw,g,gp,ar]
 rcases d with rfl|rfl|rfl|rfl|rfl|rfl|rfl|rfl|rfl|rfl|rfl
 ·exact λs f=>rfl
 ·exact λs f=>rfl
 ·exact λs f=>rfl
 ·exact e
 ·exact h
 all_goals
  intro s f;simp[gU,gj,nh,aw,Go.Proofs.YtnfhpdbbfejioaaGreatDoor.gJ,gp,ar]
section
variable {fs : By → Option Mf} {d : Nat} {F : Mf} {k : Nat} {o : List Vl} {st : Ms}
theorem kx(h:F.steps[k]?=some st)(s:TS)(f:Nat):oq fs d F k o (li s (f+1))=stepG fs (f+1) d F k o st (li s f):=by
 have e:(li s (f+1)).fuel.toNat=f+1:=by show(((f+1:Nat):Int)).toNat=f+1;omega
 unfold oq;rw[e,LX h];have a:¬(li s (f+1)).fuel<=0:=by show ¬((f+1:Nat):Int)<=0;omega
 rw[ft (oC a)];have b:({(li s (f+1)) with fuel:=(li s (f+1)).fuel-1}:Sg)=li s f:=by
  unfold li;have:((f+1:Nat):Int)-1=(f:Int):=by omega
  simp[this]
 rw[b]
theorem wK(s:TS)(f:Nat):(li s f).fuel.toNat<f+1:=by show(f:Int).toNat<f+1;omega
theorem f_8(h:F.steps[k]?=some st)(hc:st.code=8)(s:TS)(f:Nat):oq fs d F k o (li s (f+1))= .ok ((pl o st.a).1,li s f):=by
 rw[kx h,QL hc];rfl
theorem f_4(h:F.steps[k]?=some st)(hc:st.code=4)(s:TS)(f:Nat):oq fs d F k o (li s (f+1))=oq fs d F ((fA F.steps st.label).getD 0+1) o (li s f):=by
 rw[kx h,QM hc,nJ (wK s f)]
theorem f_5(h:F.steps[k]?=some st)(hc:st.code=5)(s:TS)(f:Nat):oq fs d F k o (li s (f+1))=if(pl o st.a).1=0 then oq fs d F ((fA F.steps st.label).getD 0+1) o (li s f) else oq fs d F (k+1) o (li s f):=by
 rw[kx h,Nv hc];split<;>rw[nJ (wK s f)]
theorem f_6(h:F.steps[k]?=some st)(hc:st.code=6)(s:TS)(f:Nat):oq fs d F k o (li s (f+1))=oq fs d F (k+1) o (li s f):=by
 rw[kx h,QN hc,nJ (wK s f)]
def QJ{α β:Type}(r:Except (Int×List Int) (α×TS))(q:α->TS->Except (Int×List Int) β):Except (Int×List Int) β:=
 match r with
 | .ok (v,a)=>q v a
 | .error e=> .error e
theorem sk{α:Type}{x:TG α}{y:ld α}(a:wJ x y)(q:α->Nat×List Vl)(s:TS)(f:Nat):
  gb y (λv=>iK fs (f+1) d F (q v).1 (q v).2) (li s f)=QJ (x s) λv b=>oq fs d F (q v).1 (q v).2 (li b f):=by
 unfold gb;rw[a s f];cases x s with
 |error e=>rfl
 |ok r=>exact nJ (wK r.2 f)
theorem S7(h:F.steps[k]?=some st)(hc:st.code=13)(s:TS)(f:Nat):oq fs d F k o (li s (f+1))=QJ (af (pl o st.a).1 s) λv b=>oq fs d F (k+1) o (li b f):=by
 rw[kx h,LY hc];exact sk (DV _) (λ_=>(k+1,o)) s f
theorem S8(h:F.steps[k]?=some st)(hc:st.code=12)(s:TS)(f:Nat):oq fs d F k o (li s (f+1))=QJ (aq (pl o st.a).2 (pl o st.b).1 (pl o st.c).1 s) λv e=>oq fs d F (k+1) o (li e f):=by
 rw[kx h,LZ hc];exact sk (IW _ _ _) (λ_=>(k+1,o)) s f
theorem SK(h:F.steps[k]?=some st)(a:AD st.code){x:TG Vl}(b:∀g,wJ x (eI fs g d st o))(s:TS)(f:Nat):oq fs d F k o (li s (f+1))=QJ (x s) λv c=>oq fs d F (k+1) (o.set st.dst.toNat v) (li c f):=by
 rw[kx h,Nw a];exact sk (b _) (λv=>(k+1,o.set st.dst.toNat v)) s f
theorem f_7(h:F.steps[k]?=some st)(hc:st.code=7){G:Mf}(a:fs st.name=some G)(s:TS)(f:Nat):oq fs d F k o (li s (f+1))=if 40<=d then .error (5,s.out) else match oq fs (d+1) G 0 (theirs G o st.args) (li s f) with
   | .ok (n,b)=>oq fs d F (k+1) (o.set st.dst.toNat (n,none)) b
   | .error e=> .error e:=by
 rw[kx h,Nw (by rw[hc];decide)];have e:eI fs (f+1) d st o=if 40<=d then gt 5 else gb (iK fs (f+1) (d+1) G 0 (theirs G o st.args)) λn=>gp (n,none):=by
  unfold eI;rw[hc,a];simp
 rw[e];by_cases c:40<=d
 ·rw[if_pos c,if_pos c];rfl
 ·rw[if_neg c,if_neg c];unfold gb;rw[nJ (wK s f)];cases g:oq fs (d+1) G 0 (theirs G o st.args) (li s f) with
  |error e=>rfl
  |ok r=>
   obtain⟨n,b⟩:=r;have i:=wO fs _ _ _ _ _ _ _ _ g;show iK fs (f+1) d F (k+1) _ b=_;refine nJ ?_;have:b.fuel<=(f:Int):=i;omega
end
def Pv(w:Wr)(p:Nat):Prop:=p<w.ts.length/\p∉w.sp1/\p∉w.sp2/\w.no≠some p
structure Ok (w:Wr):Prop where
 s1:w.sp1.Nodup
 s2:w.sp2.Nodup
 l1:∀p∈w.sp1,p<w.ts.length/\p∉w.sp2/\w.no≠some p
 l2:∀p∈w.sp2,p<w.ts.length/\w.no≠some p
 l3:∀z,w.no=some z->z<w.ts.length
structure Ex (w w':Wr):Prop where
 ss:w.ss<+:w'.ss
 ts:w.ts<+:w'.ts
 p1:w.sp1<+:w'.sp1
 p2:w.sp2<+:w'.sp2
 no:∀z,w.no=some z->w'.no=some z
 n1:∀p∈w'.sp1,p∈w.sp1\/w.ts.length<=p
 n2:∀p∈w'.sp2,p∈w.sp2\/w.ts.length<=p
 n3:∀z,w'.no=some z->w.no=some z\/w.ts.length<=z
 lb:w.lb<=w'.lb
 ok:Ok w->Ok w'
theorem Ex.refl(w:Wr):Ex w w:=⟨aN,aN,aN,aN,λ_ h=>h,λ_ h=> .inl h,λ_ h=> .inl h,λ_ h=> .inl h,aD _,λh=>h⟩
theorem Ex.tl{w w':Wr}(h:Ex w w'):w.ts.length<=w'.ts.length:=h.ts.length_le
theorem Ex.sl{w w':Wr}(h:Ex w w'):w.ss.length<=w'.ss.length:=h.ss.length_le
theorem Ex.trans{a b c:Wr}(h:Ex a b)(g:Ex b c):Ex a c:=by
 have d:=h.tl;refine⟨h.ss.trans g.ss,h.ts.trans g.ts,h.p1.trans g.p1,h.p2.trans g.p2,λz e=>g.no z (h.no z e),λp f=>?_,λp f=>?_,λz i=>?_,aP h.lb g.lb,λe=>g.ok (h.ok e)⟩
 ·rcases g.n1 p f with e|e
  ·exact h.n1 p e
  ·exact .inr (by omega)
 ·rcases g.n2 p f with e|e
  ·exact h.n2 p e
  ·exact .inr (by omega)
 ·rcases g.n3 z i with e|e
  ·exact h.n3 z e
  ·exact .inr (by omega)
theorem Ex.pv{w w':Wr}(h:Ex w w'){p:Nat}(a:Pv w p):Pv w' p:=by
 obtain⟨h1,h2,b,c⟩:=a;have:=h.tl;refine⟨by omega,λe=>?_,λe=>?_,λe=>?_⟩
 ·rcases h.n1 p e with e|e
  ·exact h2 e
  ·omega
 ·rcases h.n2 p e with e|e
  ·exact b e
  ·omega
 ·rcases h.n3 p e with e|e
  ·exact c e
  ·omega
structure SX (w w':Wr):Prop where
 ex:Ex w w'
 nm:w'.nm=w.nm
 nr:∃l,w'.ss=w.ss++l/\∀s∈l,s.code≠8
theorem pM{w w':Wr}(h:w'.ss=w.ss):∃l,w'.ss=w.ss++l/\∀s∈l,s.code≠8:=⟨[],by rw[h];simp,λs a=>by simp at a⟩
theorem SX.refl(w:Wr):SX w w:=⟨Ex.refl w,rfl,pM rfl⟩
theorem SX.trans{a b c:Wr}(h:SX a b)(g:SX b c):SX a c:=⟨h.ex.trans g.ex,g.nm.trans h.nm,by
 obtain⟨l,d,h1⟩:=h.nr;obtain⟨m,e,h2⟩:=g.nr;refine⟨l++m,by rw[e,d,dn],λs f=>?_⟩;rcases bE.1 f with f|f
 ·exact h1 s f
 ·exact h2 s f⟩
theorem pN{s:Ms}{w w':Wr}(h:gX s w=some ((),w')):w'={w with ss:=w.ss++[s]}/\Ex w w'/\w'.nm=w.nm/\w'.u1=w.u1/\w'.u2=w.u2:=by
 unfold gX at h;split at h
 ·injection h with h;injection h with _ h;subst h;exact⟨rfl,⟨bf _ _,aN,aN,aN,λ_ h=>h,λ_ h=> .inl h,λ_ h=> .inl h,λ_ h=> .inl h,aD _,λh=>⟨h.s1,h.s2,h.l1,h.l2,h.l3⟩⟩,rfl,rfl,rfl⟩
 ·cases h
theorem fM{s:Ms}{w w':Wr}(h:gX s w=some ((),w'))(f:s.code≠8):w'={w with ss:=w.ss++[s]}/\SX w w'/\w'.u1=w.u1/\w'.u2=w.u2:=by
 obtain⟨a,b,c,d,e⟩:=pN h;exact⟨a,⟨b,c,[s],by rw[a],λx g=>by simp at g;rw[g];exact f⟩,d,e⟩
theorem iw{α:Type}{l:List α}{x y:α}(h:x∈l++[y]):x∈l\/x=y:=by
 simpa using h
theorem mK{w w':Wr}{p:Nat}(h:h_ w=some (p,w')):SX w w'/\w'.u1=w.u1+1/\w'.u2=w.u2/\w'.sp1[w.u1]?=some p/\w'.ss=w.ss:=by
 unfold h_ at h;split at h
 ·rename_i i;split at h
  ·rename_i k;injection h with h;injection h with h1 h;subst h1 h;refine⟨⟨⟨aN,bf _ _,bf _ _,aN,λ_ h=>h,λp c=>?_,λ_ h=> .inl h,λ_ h=> .inl h,aD _,λhk=>⟨?_,hk.s2,λp c=>?_,λp c=>?_,λz g=>?_⟩⟩,rfl,pM rfl⟩,rfl,rfl,?_,rfl⟩
   ·rcases iw c with e|e
    ·exact .inl e
    ·exact .inr (by omega)
   ·rw[b_];refine⟨hk.s1,by simp,λa d b j=>?_⟩;have:=(hk.l1 a d).1;simp at j;omega
   ·rcases iw c with e|e
    ·have:=hk.l1 p e;exact⟨by simp;omega,this.2⟩
    ·subst e;refine⟨by simp,λe=>?_,λe=>?_⟩
     ·have:=(hk.l2 _ e).1;omega
     ·have:=hk.l3 _ e;omega
   ·have:=hk.l2 p c;exact⟨by simp;omega,this.2⟩
   ·have:=hk.l3 z g;simp;omega
   ·rw[i];simp
  ·cases h
 ·split at h
  ·rename_i q f;injection h with h;injection h with h1 h;subst h1 h;exact⟨⟨⟨aN,aN,aN,aN,λ_ h=>h,λ_ h=> .inl h,λ_ h=> .inl h,λ_ h=> .inl h,aD _,λh=>⟨h.s1,h.s2,h.l1,h.l2,h.l3⟩⟩,rfl,pM rfl⟩,rfl,rfl,f,rfl⟩
  ·cases h
theorem JR{w w':Wr}{p:Nat}(h:rz w=some (p,w')):SX w w'/\w'.u1=w.u1/\w'.u2=w.u2+1/\w'.sp2[w.u2]?=some p/\w'.ss=w.ss:=by
 unfold rz at h;split at h
 ·rename_i i;split at h
  ·rename_i k;injection h with h;injection h with h1 h;subst h1 h;refine⟨⟨⟨aN,bf _ _,aN,bf _ _,λ_ h=>h,λ_ h=> .inl h,λp c=>?_,λ_ h=> .inl h,aD _,λhk=>⟨hk.s1,?_,λp c=>?_,λp c=>?_,λz g=>?_⟩⟩,rfl,pM rfl⟩,rfl,rfl,?_,rfl⟩
   ·rcases iw c with e|e
    ·exact .inl e
    ·exact .inr (by omega)
   ·rw[b_];refine⟨hk.s2,by simp,λa d b j=>?_⟩;have:=(hk.l2 a d).1;simp at j;omega
   ·have:=hk.l1 p c;refine⟨by simp;omega,λe=>?_,this.2.2⟩;rcases iw e with e|e
    ·exact this.2.1 e
    ·omega
   ·rcases iw c with e|e
    ·have:=hk.l2 p e;exact⟨by simp;omega,this.2⟩
    ·subst e;refine⟨by simp,λe=>?_⟩;have:=hk.l3 _ e;omega
   ·have:=hk.l3 z g;simp;omega
   ·rw[i];simp
  ·cases h
 ·split at h
  ·rename_i q f;injection h with h;injection h with h1 h;subst h1 h;exact⟨⟨⟨aN,aN,aN,aN,λ_ h=>h,λ_ h=> .inl h,λ_ h=> .inl h,λ_ h=> .inl h,aD _,λh=>⟨h.s1,h.s2,h.l1,h.l2,h.l3⟩⟩,rfl,pM rfl⟩,rfl,rfl,f,rfl⟩
  ·cases h
theorem nR{w w':Wr}{z:Nat}(h:kO w=some (z,w')):SX w w'/\w'.u1=w.u1/\w'.u2=w.u2/\w'.no=some z/\w'.ss=w.ss:=by
 unfold kO at h;split at h
 ·rename_i p a;injection h with h;injection h with h1 h;subst h1 h;exact⟨SX.refl _,rfl,rfl,a,rfl⟩
 ·rename_i c;split at h
  ·injection h with h;injection h with h1 h;subst h1 h;refine⟨⟨⟨aN,bf _ _,aN,aN,λz e=>?_,λ_ h=> .inl h,λ_ h=> .inl h,λz e=>?_,aD _,λhk=>⟨hk.s1,hk.s2,λp a=>?_,λp a=>?_,λz b=>?_⟩⟩,rfl,pM rfl⟩,rfl,rfl,rfl,rfl⟩
   ·rw[c]at e;cases e
   ·injection e with e;exact .inr (by omega)
   ·have:=hk.l1 p a;refine⟨by simp;omega,this.2.1,λe=>?_⟩;injection e with e;omega
   ·have:=hk.l2 p a;refine⟨by simp;omega,λe=>?_⟩;injection e with e;omega
   ·injection b with b;simp;omega
  ·cases h
theorem fY{w w':Wr}{e:Nat}(h:gY w=some (e,w')):SX w w'/\w'.u1=w.u1/\w'.u2=w.u2/\e=w.lb+1/\w'.lb=w.lb+1/\w'.ss=w.ss:=by
 unfold gY at h;split at h
 ·injection h with h;injection h with h1 h;subst h1 h;exact⟨⟨⟨aN,aN,aN,aN,λ_ h=>h,λ_ h=> .inl h,λ_ h=> .inl h,λ_ h=> .inl h,dK _,λh=>⟨h.s1,h.s2,h.l1,h.l2,h.l3⟩⟩,rfl,pM rfl⟩,rfl,rfl,rfl,rfl,rfl⟩
 ·cases h
theorem iE{w w':Wr}{a b:Nat}(h:lB a b w=some ((),w')):SX w w'/\w'={w with u1:=a,u2:=b}:=by
 unfold lB at h;injection h with h;injection h with _ h;subst h;exact⟨⟨⟨aN,aN,aN,aN,λ_ h=>h,λ_ h=> .inl h,λ_ h=> .inl h,λ_ h=> .inl h,aD _,λh=>⟨h.s1,h.s2,h.l1,h.l2,h.l3⟩⟩,rfl,pM rfl⟩,rfl⟩
theorem mM{w w':Wr}{x:By}{p:Nat}(h:iH x w=some (p,w')):w'=w/\p=nG w.nm x:=by
 unfold iH at h;split at h
 ·injection h with h;injection h with h1 h;exact⟨h.symm,h1.symm⟩
 ·cases h
theorem zB{w w':Wr}{c:Int}{x:By}{k:Int}(h:kQ c x w=some (k,w')):w'=w/\(c=2->w.ts[nG w.nm x]?=some k)/\(c≠2->k=if c=6 then 2 else 1):=by
 unfold kQ at h;split at h
 ·rename_i hc;split at h
  ·split at h
   ·rename_i q a;injection h with h;injection h with h1 h;subst h1;exact⟨h.symm,λ_=>a,λe=>absurd hc e⟩
   ·cases h
  ·cases h
 ·rename_i hc;injection h with h;injection h with h1 h;exact⟨h.symm,λe=>absurd e hc,λ_=>h1.symm⟩
theorem iy{α:Type}{a b:α}{w w':Wr}(h:lp a w=some (b,w')):b=a/\w'=w:=by
 unfold lp at h;injection h with h;injection h with h1 h2;exact⟨h1.symm,h2.symm⟩
def Vp(w w':Wr)(p:Nat):Prop:=
 (w'.u1=w.u1/\w'.u2=w.u2/\∃x,p=nG w.nm x)\/(w'.u1=w.u1+1/\w'.u2=w.u2/\w'.sp1[w.u1]?=some p)\/(w'.u1=w.u1/\w'.u2=w.u2+1/\w'.sp2[w.u2]?=some p)
theorem Vp.le{w w':Wr}{p:Nat}(h:Vp w w' p):w.u1<=w'.u1/\w.u2<=w'.u2:=by
 rcases h with h|h|h<;>omega
theorem vF{w w':Wr}{k:Int}{p:Nat}(h:nX k w=some (p,w')):SX w w'/\w'.ss=w.ss/\((k=1/\w'.u1=w.u1+1/\w'.u2=w.u2/\w'.sp1[w.u1]?=some p)\/(k=2/\w'.u1=w.u1/\w'.u2=w.u2+1/\w'.sp2[w.u2]?=some p)):=by
 unfold nX at h;split at h
 ·rename_i hk;obtain⟨a,b,c,d,e⟩:=JR h;exact⟨a,e,.inr ⟨hk,b,c,d⟩⟩
 ·split at h
  ·rename_i hk;obtain⟨a,b,c,d,e⟩:=mK h;exact⟨a,e,.inl ⟨hk,b,c,d⟩⟩
  ·cases h
theorem Ba{s:Ms}{p q:Nat}{w w':Wr}(h:pV s p w=some (q,w'))(d:s.code≠8):q=p/\SX w w'/\w'.u1=w.u1/\w'.u2=w.u2/\((s.code=2/\s.a=(p:Int)/\w'=w)\/(¬(s.code=2/\s.a=(p:Int))/\w'={w with ss:=w.ss++[{s with dst:=(p:Int)}]})):=by
 unfold pV at h;split at h
 ·rename_i hc;obtain⟨rfl,rfl⟩:=iy h;exact⟨rfl,SX.refl _,rfl,rfl,.inl ⟨hc.1,hc.2,rfl⟩⟩
 ·rename_i hc;obtain⟨_,w1,h1,h⟩:=d_ h;obtain⟨rfl,rfl⟩:=iy h;obtain⟨e,h2,b,c⟩:=fM h1 d;exact⟨rfl,h2,b,c,.inr ⟨hc,e⟩⟩
structure iR (F:Lf):Prop where
 V:∀t w p w',F.V t w=some (p,w')->SX w w'/\Vp w w' p
 L:∀t w s w',F.L t w=some (s,w')->SX w w'/\w.u1<=w'.u1/\w.u2<=w'.u2/\s.code≠8
 U:∀t e w w',F.U t e w=some ((),w')->SX w w'/\w'.u1=w.u1/\w'.u2=w.u2
 W:∀t e w w',F.W t e w=some ((),w')->SX w w'/\w'.u1=w.u1/\w'.u2=w.u2
theorem zC{F:Lf}(a:iR F):∀(xs:List Tr)(w:Wr)(b:List Int)(w':Wr),lK F.V xs w=some (b,w')->SX w w'/\w.u1<=w'.u1/\w.u2<=w'.u2
 |[],w,b,w',h=>by
  obtain⟨rfl,rfl⟩:=iy h;exact⟨SX.refl _,aD _,aD _⟩
 |x::xs,w,b,w',h=>by
  obtain⟨p,w1,h1,h⟩:=d_ h;obtain⟨c,d,h2,h⟩:=d_ h;obtain⟨rfl,rfl⟩:=iy h;obtain⟨e,f⟩:=a.V x w p w1 h1;obtain⟨g,i,j⟩:=zC a xs w1 c w' h2;have:=f.le;exact⟨e.trans g,by omega,by omega⟩
theorem Mq{F:Lf}(a:iR F){t:Tr}{w w':Wr}{p:Nat}(h:qZ F t w=some (p,w')):SX w w'/\Vp w w' p:=by
 unfold qZ at h;split at h
 ·split at h
  ·obtain⟨rfl,rfl⟩:=mM h;exact⟨SX.refl _,.inl ⟨rfl,rfl,_,rfl⟩⟩
  ·obtain⟨s,w1,h1,h⟩:=d_ h;obtain⟨_,b,h2,h⟩:=d_ h;obtain⟨k,c,d,h⟩:=d_ h;obtain⟨e,f,g,i⟩:=d_ h;obtain⟨j,l,m,n⟩:=a.L _ _ _ _ h1;obtain⟨o,q⟩:=iE h2;obtain⟨u,-,-⟩:=zB d;obtain⟨v,-,x⟩:=vF g;obtain⟨rfl,y,z,A,-⟩:=Ba i n;subst u;refine⟨((j.trans o).trans v).trans y,?_⟩;have B:c.u1=w.u1:=by rw[q]
   have C:c.u2=w.u2:=by rw[q]
   rw[B,C]at x;rcases x with⟨-,D,E,G⟩|⟨-,D,E,G⟩
   ·refine .inr (.inl ⟨by omega,by omega,?_⟩);obtain⟨r,H⟩:=y.ex.p1;rw[<-H,aW (aK.1 G).1];exact G
   ·refine .inr (.inr ⟨by omega,by omega,?_⟩);obtain⟨r,H⟩:=y.ex.p2;rw[<-H,aW (aK.1 G).1];exact G
 ·cases h
theorem JS{F:Lf}(a:iR F){t:Tr}{w w':Wr}{s:Ms}(h:lW F.U t w=some (s,w')):SX w w'/\w.u1<=w'.u1/\w.u2<=w'.u2/\s.code≠8:=by
 unfold lW at h;obtain⟨p,w1,h1,h⟩:=d_ h;obtain⟨e,b,h2,h⟩:=d_ h;obtain⟨_,c,d,h⟩:=d_ h;obtain⟨_,f,g,h⟩:=d_ h;obtain⟨_,i,j,h⟩:=d_ h;obtain⟨_,k,l,h⟩:=d_ h;obtain⟨rfl,rfl⟩:=iy h;obtain⟨m,n,o,-⟩:=mK h1;obtain⟨q,r,u,-⟩:=fY h2;obtain⟨-,v,x,y⟩:=fM d (by simp);obtain⟨z,A,B⟩:=a.U _ _ _ _ g;obtain⟨-,C,D,E⟩:=fM j (by simp);obtain⟨-,G,H,I⟩:=fM l (by simp);exact⟨((((m.trans q).trans v).trans z).trans C).trans G,by omega,by omega,by simp⟩
theorem Q0{F:Lf}(a:iR F){t:Tr}{w w':Wr}{s:Ms}(h:ki F t w=some (s,w')):SX w w'/\w.u1<=w'.u1/\w.u2<=w'.u2/\s.code≠8:=by
 have b:∀{x:Tr}{w w1:Wr}{p:Nat},F.V x w=some (p,w1)->SX w w1/\w.u1<=w1.u1/\w.u2<=w1.u2:=λh=>by
  obtain⟨c,d⟩:=a.V _ _ _ _ h;exact⟨c,d.le⟩
 unfold ki at h;split at h
 ·split at h
  ·obtain⟨p,w1,h1,h⟩:=d_ h;obtain⟨rfl,rfl⟩:=iy h;obtain⟨rfl,rfl⟩:=mM h1;exact⟨SX.refl _,aD _,aD _,by simp⟩
  split at h
  ·unfold tj at h;split at h
   ·exact JS a h
   ·obtain⟨p,w1,h1,h⟩:=d_ h;obtain⟨q,e,h2,h⟩:=d_ h;obtain⟨rfl,rfl⟩:=iy h;obtain⟨c,d,f⟩:=b h1;obtain⟨g,i,j⟩:=b h2;exact⟨c.trans g,by omega,by omega,by(first|(split<;>(show ¬(3:Int)=8;decide))|simp)⟩
  split at h
  ·unfold ye at h;obtain⟨p,w1,h1,h⟩:=d_ h;obtain⟨q,e,h2,h⟩:=d_ h;obtain⟨rfl,rfl⟩:=iy h;obtain⟨c,d,f⟩:=b h1;obtain⟨g,i,j,-⟩:=nR h2;exact⟨c.trans g,by omega,by omega,by(first|(split<;>(show ¬(3:Int)=8;decide))|simp)⟩
  split at h
  ·obtain⟨k,w1,h1,h⟩:=d_ h;obtain⟨rfl,rfl⟩:=iy h;obtain⟨c,d,f⟩:=zC a _ _ _ _ h1;exact⟨c,d,f,by simp⟩
  split at h
  ·obtain⟨p,w1,h1,h⟩:=d_ h;obtain⟨rfl,rfl⟩:=iy h;obtain⟨c,d,f⟩:=b h1;exact⟨c,d,f,by simp⟩
  split at h
  ·obtain⟨p,w1,h1,h⟩:=d_ h;obtain⟨rfl,rfl⟩:=iy h;obtain⟨c,d,f⟩:=b h1;exact⟨c,d,f,by simp⟩
  split at h
  ·obtain⟨p,w1,h1,h⟩:=d_ h;obtain⟨q,e,h2,h⟩:=d_ h;obtain⟨rfl,rfl⟩:=iy h;obtain⟨c,d,f⟩:=b h1;obtain⟨g,i,j⟩:=b h2;exact⟨c.trans g,by omega,by omega,by(first|(split<;>(show ¬(3:Int)=8;decide))|simp)⟩
  split at h
  ·obtain⟨rfl,rfl⟩:=iy h;exact⟨SX.refl _,aD _,aD _,by simp⟩
  ·obtain⟨rfl,rfl⟩:=iy h;exact⟨SX.refl _,aD _,aD _,by simp⟩
 ·cases h
theorem Q3{F:Lf}(a:iR F){t:Tr}{e:Nat}{w w':Wr}(h:tq F t e w=some ((),w')):SX w w'/\w'.u1=w.u1/\w'.u2=w.u2:=by
 unfold tq at h;split at h
 ·obtain⟨_,w1,h1,h⟩:=d_ h;obtain⟨b,c⟩:=iE h;have d:SX w w1:=by
   split at h1
   ·exact(a.W _ _ _ _ h1).1
   split at h1
   ·obtain⟨_,f,h2,h1⟩:=d_ h1;exact(a.U _ _ _ _ h2).1.trans (a.U _ _ _ _ h1).1
   split at h1
   ·obtain⟨g,f,h2,h1⟩:=d_ h1;obtain⟨_,i,j,h1⟩:=d_ h1;obtain⟨_,k,l,h1⟩:=d_ h1;exact(((fY h2).1.trans (a.W _ _ _ _ j).1).trans (a.U _ _ _ _ l).1).trans (fM h1 (by simp)).2.1
   ·obtain⟨p,f,h2,h1⟩:=d_ h1;exact(a.V _ _ _ _ h2).1.trans (fM h1 (by simp)).2.1
  exact⟨d.trans b,by rw[c],by rw[c]⟩
 ·cases h
theorem Q4{F:Lf}(a:iR F){t:Tr}{e:Nat}{w w':Wr}(h:tu F t e w=some ((),w')):SX w w'/\w'.u1=w.u1/\w'.u2=w.u2:=by
 unfold tu at h;split at h
 ·obtain⟨_,w1,h1,h⟩:=d_ h;obtain⟨b,c⟩:=iE h;have d:SX w w1:=by
   split at h1
   ·exact(a.U _ _ _ _ h1).1
   split at h1
   ·obtain⟨_,f,h2,h1⟩:=d_ h1;exact(a.W _ _ _ _ h2).1.trans (a.W _ _ _ _ h1).1
   split at h1
   ·obtain⟨g,f,h2,h1⟩:=d_ h1;obtain⟨_,i,j,h1⟩:=d_ h1;obtain⟨_,k,l,h1⟩:=d_ h1;exact(((fY h2).1.trans (a.U _ _ _ _ j).1).trans (a.W _ _ _ _ l).1).trans (fM h1 (by simp)).2.1
   ·obtain⟨p,f,h2,h1⟩:=d_ h1;obtain⟨_,i,j,h1⟩:=d_ h1;obtain⟨q,k,l,h1⟩:=d_ h1;obtain⟨z,m,n,h1⟩:=d_ h1;obtain⟨_,o,r,h1⟩:=d_ h1;exact(((((a.V _ _ _ _ h2).1.trans (iE j).1).trans (mK l).1).trans (nR n).1).trans (fM r (by simp)).2.1).trans (fM h1 (by simp)).2.1
  exact⟨d.trans b,by rw[c],by rw[c]⟩
 ·cases h
theorem Mr{F:Lf}{t:Tr}{w w':Wr}{s:Ms}(h:ui F t w=some (s,w')):ki F t w=some (s,w'):=by
 unfold ui at h;split at h
 ·exact h
 ·cases h
theorem ru:∀g,iR (mm g)
 |0=>⟨λ_ _ _ _ h=>(by cases h),λ_ _ _ _ h=>(by cases h),λ_ _ _ _ h=>(by cases h),λ_ _ _ _ h=>(by cases h)⟩
 |g+1=>by
  have a:=ru g;exact⟨λt w p w' h=>Mq a h,λt w s w' h=>Q0 a (Mr h),λt e w w' h=>Q3 a h,λt e w w' h=>Q4 a h⟩
abbrev TE(α:Type):=Except (Int×List Int) (α×TS)
abbrev TO:=Go.Proofs.YtnfhpdbbfejioaaGreatDoor.Own
structure Cx where
 fs:By->Option Mf
 d:Nat
 F:Mf
 wf:Wr
structure jl (X:Cx):Prop where
 ok:Ok X.wf
 ss:X.wf.ss=X.F.steps
 ts:X.wf.ts.length=X.F.types.length
 lab:gB X.F.steps
def To(X:Cx)(n k:Nat)(o:List Vl)(s:TS)(a:Nat)(b:List Vl)(s':TS):Prop:=∀f,oq X.fs X.d X.F k o (li s (f+n))=oq X.fs X.d X.F a b (li s' f)
def Er(X:Cx)(n k:Nat)(o:List Vl)(s:TS)(e:Int×List Int):Prop:=∀f,oq X.fs X.d X.F k o (li s (f+n))= .error e
theorem To.refl(X:Cx)(k:Nat)(o:List Vl)(s:TS):To X 0 k o s k o s:=λf=>rfl
theorem To.trans{X:Cx}{n m k a b:Nat}{o c d:List Vl}{s e s2:TS}(h:To X n k o s a c e)(g:To X m a c e b d s2):To X (n+m) k o s b d s2:=λf=>by
 have:=h (f+m);rw[show f+(n+m)=f+m+n by omega,this];exact g f
theorem To.er{X:Cx}{n m k a:Nat}{o b:List Vl}{s c:TS}{e:Int×List Int}(h:To X n k o s a b c)(g:Er X m a b c e):Er X (n+m) k o s e:=λf=>by
 have:=h (f+m);rw[show f+(n+m)=f+m+n by omega,this];exact g f
structure fq (X:Cx) {α:Type} (c k:Nat) (o:List Vl) (s:TS) (r:TE α) (Q:α->Nat->List Vl->Prop):Prop where
 ok:∀a s1,r= .ok (a,s1)->∃n k' o',n+10000*s1.fuel<=c+10000*s.fuel/\To X n k o s k' o' s1/\Q a k' o'
 er:∀w out,r= .error (w,out)->w≠6->w≠99->∃n,n<=c+10000*s.fuel/\Er X n k o s (w,out)
theorem fq.mono{X:Cx}{α:Type}{c b k:Nat}{o:List Vl}{s:TS}{r:TE α}{Q Q':α->Nat->List Vl->Prop}(h:fq X c k o s r Q)(hc:c<=b)(d:∀a k o,Q a k o->Q' a k o):fq X b k o s r Q':=by
 refine⟨λa f e=>?_,λw out e h1 h2=>?_⟩
 ·obtain⟨n,g,i,j,l,m⟩:=h.ok a f e;exact⟨n,g,i,by omega,l,d _ _ _ m⟩
 ·obtain⟨n,j,l⟩:=h.er w out e h1 h2;exact⟨n,by omega,l⟩
theorem fq.pure{X:Cx}{α:Type}{k:Nat}{o:List Vl}{s:TS}{a:α}{Q:α->Nat->List Vl->Prop}(h:Q a k o):fq X 0 k o s (.ok (a,s)) Q:=by
 refine⟨λb c e=>?_,λw out e=>(by cases e)⟩;injection e with e;injection e with e1 e2;subst e1 e2;exact⟨0,k,o,by omega,To.refl _ _ _ _,h⟩
theorem fq.ahead{X:Cx}{α:Type}{m c k b:Nat}{o d:List Vl}{s:TS}{r:TE α}{Q:α->Nat->List Vl->Prop}(h:To X m k o s b d s)(g:fq X c b d s r Q):fq X (m+c) k o s r Q:=by
 refine⟨λa f e=>?_,λw out e h1 h2=>?_⟩
 ·obtain⟨n,i,j,l,p,q⟩:=g.ok a f e;exact⟨m+n,i,j,by omega,h.trans p,q⟩
 ·obtain⟨n,l,p⟩:=g.er w out e h1 h2;exact⟨m+n,by omega,h.er p⟩
theorem fq.behind{X:Cx}{α:Type}{m c k:Nat}{o:List Vl}{s:TS}{r:TE α}{Q Q':α->Nat->List Vl->Prop}(h:fq X c k o s r Q)(g:∀a b d f,Q a b d->∃i j l,i<=m/\To X i b d f j l f/\Q' a j l):fq X (c+m) k o s r Q':=by
 refine⟨λa f e=>?_,λw out e h1 h2=>?_⟩
 ·obtain⟨n,p,q,t,u,v⟩:=h.ok a f e;obtain⟨i,j,l,x,y,z⟩:=g a p q f v;exact⟨n+i,j,l,by omega,u.trans y,z⟩
 ·obtain⟨n,t,u⟩:=h.er w out e h1 h2;exact⟨n,by omega,u⟩
theorem fq.bind{X:Cx}{α d:Type}{c e k:Nat}{o:List Vl}{s:TS}{x:TG α}{f:α->TG d}{Q:α->Nat->List Vl->Prop}{R:d->Nat->List Vl->Prop}(h:fq X c k o s (x s) Q)(g:∀a i j l,Q a i j->x s= .ok (a,l)->fq X e i j l (f a l) R):fq X (c+e) k o s (au x f s) R:=by
 unfold au;cases p:x s with
 |error r=>
  refine⟨λa l e=>(by cases e),λw out q h1 h2=>?_⟩;obtain⟨n,t,u⟩:=h.er w out (by rw[p];dsimp only at q;injection q with q;rw[q]) h1 h2;exact⟨n,by omega,u⟩
 |ok r=>
  obtain⟨a,l⟩:=r;obtain⟨n,i,j,t,u,v⟩:=h.ok a l p;have y:=g a i j l v p;refine⟨λb z A=>?_,λw out A h1 h2=>?_⟩
  ·obtain⟨m,B,C,D,E,F⟩:=y.ok b z A;exact⟨n+m,B,C,by omega,u.trans E,F⟩
  ·obtain⟨m,D,E⟩:=y.er w out A h1 h2;exact⟨n+m,by omega,u.er E⟩
theorem fq.step{X:Cx}{α:Type}{k:Nat}{o:List Vl}{s:TS}{x:TG α}{q:α->Nat×List Vl}(h:∀f,oq X.fs X.d X.F k o (li s (f+1))=QJ (x s) λv b=>oq X.fs X.d X.F (q v).1 (q v).2 (li b f))(c:∀a b,x s= .ok (a,b)->b.fuel=s.fuel):fq X 1 k o s (x s) λv g i=>g=(q v).1/\i=(q v).2:=by
 refine⟨λa b e=>?_,λw out e h1 h2=>?_⟩
 ·exact⟨1,_,_,by have:=c a b e;omega,λf=>by rw[h f,e];rfl,rfl,rfl⟩
 ·exact⟨1,by omega,λf=>by rw[h f,e];rfl⟩
def Fr(X:Cx)(a b p:Nat):Prop:=(∃i,a<=i/\X.wf.sp1[i]?=some p)\/(∃i,b<=i/\X.wf.sp2[i]?=some p)
theorem Fr.mono{X:Cx}{a b c d p:Nat}(h:Fr X c d p)(e:a<=c)(f:b<=d):Fr X a b p:=by
 rcases h with⟨i,h1,h2⟩|⟨i,h1,h2⟩
 ·exact .inl ⟨i,by omega,h2⟩
 ·exact .inr ⟨i,by omega,h2⟩
structure Kp (X:Cx) (a b:Nat) (o o':List Vl):Prop where
 len:o'.length=o.length
 keep:∀p,¬Fr X a b p->o'[p]?=o[p]?
theorem Kp.refl(X:Cx)(a b:Nat)(o:List Vl):Kp X a b o o:=⟨rfl,λ_ _=>rfl⟩
theorem Kp.trans{X:Cx}{a b:Nat}{o c o2:List Vl}(h:Kp X a b o c)(g:Kp X a b c o2):Kp X a b o o2:=⟨g.len.trans h.len,λp d=>(g.keep p d).trans (h.keep p d)⟩
theorem Kp.mono{X:Cx}{a b c d:Nat}{o o':List Vl}(h:Kp X c d o o')(f:a<=c)(g:b<=d):Kp X a b o o':=⟨h.len,λp i=>h.keep p λe=>i (e.mono f g)⟩
theorem Kp.set{X:Cx}{a b p:Nat}(h:Fr X a b p)(o:List Vl)(v:Vl):Kp X a b o (o.set p v):=⟨cP,λq c=>by
 rw[List.getElem?_set_ne];exact λe=>c (e▸h)⟩
theorem pn(o:List Vl)(p:Nat):pl o (p:Int)=(o[p]?).getD (0,none):=by unfold pl;rw[aR,aU]
theorem Kp.pl{X:Cx}{a b p:Nat}{o c:List Vl}(h:Kp X a b o c)(d:¬Fr X a b p):pl c (p:Int)=pl o (p:Int):=by rw[pn,pn,h.keep p d]
theorem tD{o:List Vl}{p:Nat}(h:p<o.length)(v:Vl):Mid.pl (o.set p v) (p:Int)=v:=by rw[pn,List.getElem?_set_self h];rfl
theorem Dm{o:List Vl}{p q:Nat}(h:q≠p)(v:Vl):Mid.pl (o.set p v) (q:Int)=Mid.pl o (q:Int):=by rw[pn,pn,List.getElem?_set_ne h.symm]
theorem eN{α:Type}{l a:List α}(h:l<+:a){i:Nat}{x:α}(b:l[i]?=some x):a[i]?=some x:=by
 obtain⟨r,rfl⟩:=h;rw[aW (aK.1 b).1];exact b
theorem rc{α:Type}{l:List α}(h:l.Nodup){i j:Nat}{x:α}(a:l[i]?=some x)(b:l[j]?=some x):i=j:=by
 exact(dL (aK.1 a).1 h).1 (a.trans b.symm)
theorem Gp{X:Cx}{a b p:Nat}(h:Pv X.wf p):¬Fr X a b p:=by
 rintro(⟨i,_,e⟩|⟨i,_,e⟩)
 ·exact h.2.1 (aM e)
 ·exact h.2.2.1 (aM e)
theorem MF{X:Cx}(c:jl X){a b z:Nat}(h:X.wf.no=some z):¬Fr X a b z:=by
 rintro(⟨i,_,e⟩|⟨i,_,e⟩)
 ·exact(c.ok.l1 z (aM e)).2.2 h
 ·exact(c.ok.l2 z (aM e)).2 h
theorem Gs{X:Cx}(c:jl X){i a b p:Nat}(h:X.wf.sp1[i]?=some p)(d:i<a):¬Fr X a b p:=by
 rintro(⟨j,f,e⟩|⟨j,f,e⟩)
 ·have:=rc c.ok.s1 h e;omega
 ·exact(c.ok.l1 p (aM h)).2.1 (aM e)
theorem OW{X:Cx}(c:jl X){i a b p:Nat}(h:X.wf.sp2[i]?=some p)(d:i<b):¬Fr X a b p:=by
 rintro(⟨j,f,e⟩|⟨j,f,e⟩)
 ·exact(c.ok.l1 p (aM e)).2.1 (aM h)
 ·have:=rc c.ok.s2 h e;omega
theorem Gt{X:Cx}(c:jl X){a b p:Nat}(h:Fr X a b p):p<X.F.types.length:=by
 rw[<-c.ts];rcases h with⟨i,_,e⟩|⟨i,_,e⟩
 ·exact(c.ok.l1 p (aM e)).1
 ·exact(c.ok.l2 p (aM e)).1
theorem zU:∀{l:List Ms}{j:Nat}{s:Ms},gB l->l[j]?=some s->s.code=6->fA l s.label=some j
 |[],j,s,_,h,_=>by simp at h
 |t::l,0,s,a,h,hc=>by
  have e:t=s:=by simpa using h
  subst e;unfold fA;rw[List.findIdx?_cons];simp[hc]
 |t::l,j+1,s,a,h,hc=>by
  have b:l[j]?=some s:=by simpa using h
  have c:gB l:=by
   unfold gB at a⊢;rw[List.filter_cons]at a;split at a
   ·rw[bO,cj]at a;exact a.2
   ·exact a
  have d:(t.code==6&&t.label==s.label)=false:=by
   rw[cE];intro e;simp only[bo,beq_iff_eq]at e;unfold gB at a;rw[List.filter_cons,if_pos (by simp[e.1]),bO,cj]at a;refine a.1 (aT.2 ⟨s,cY.2 ⟨aM b,by simp[hc]⟩,e.2.symm⟩)
  have:=zU c b hc;unfold fA at this⊢;rw[List.findIdx?_cons,d];simp[this]
section
variable {X : Cx} {k : Nat} {o : List Vl} {st : Ms} {s : TS}
theorem Dn(h:X.F.steps[k]?=some st)(hc:st.code=6):To X 1 k o s (k+1) o s:=λf=>f_6 h hc s f
theorem RM(a:jl X)(h:X.F.steps[k]?=some st)(hc:st.code=4){j:Nat}{b:Ms}(c:X.F.steps[j]?=some b)(d:b.code=6)(e:b.label=st.label):To X 1 k o s (j+1) o s:=λf=>by
 rw[f_4 h hc,<-e,zU a.lab c d];rfl
theorem RN(b:jl X)(h:X.F.steps[k]?=some st)(hc:st.code=5){j:Nat}{c:Ms}(d:X.F.steps[j]?=some c)(e:c.code=6)(g:c.label=st.label):To X 1 k o s (if(pl o st.a).1=0 then j+1 else k+1) o s:=λf=>by
 rw[f_5 h hc,<-g,zU b.lab d e];split<;>rfl
theorem TX(h:X.F.steps[k]?=some st)(hc:st.code=1):To X 1 k o s (k+1) (o.set st.dst.toNat (st.n,none)) s:=λf=>by
 rw[SK h (.inl hc) (x:=ar (st.n,none)) (λg=>by unfold eI;rw[if_pos hc];exact qL _) s f];rfl
theorem Gu{p:Nat}{n:Int}(h:X.F.steps[k]?=some {fd with code:=1,dst:=(p:Int),n:=n}):To X 1 k o s (k+1) (o.set p (n,none)) s:=by
 have:=TX (o:=o) (s:=s) h rfl;dsimp only at this;rw[aR]at this;exact this
theorem TY(h:X.F.steps[k]?=some st)(hc:st.code=2):To X 1 k o s (k+1) (o.set st.dst.toNat (pl o st.a)) s:=λf=>by
 rw[SK h (.inr (.inl hc)) (x:=ar (pl o st.a)) (λg=>by unfold eI;rw[hc];simp;exact qL _) s f];rfl
theorem RO(h:X.F.steps[k]?=some st)(b:AD st.code){x:TG Vl}(c:∀g,wJ x (eI X.fs g X.d st o))(e:∀a i,x s= .ok (a,i)->i.fuel=s.fuel):fq X 1 k o s (x s) λv j l=>j=k+1/\l=o.set st.dst.toNat v:=
 fq.step (q:=λv=>(k+1,o.set st.dst.toNat v)) (λf=>SK h b c s f) e
theorem OY(h:X.F.steps[k]?=some st)(hc:st.code=13):fq X 1 k o s (af (pl o st.a).1 s) λv b c=>b=k+1/\c=o:=
 fq.step (q:=λv=>(k+1,o)) (λf=>S7 h hc s f) λa d e=>by
  unfold af at e;split at e
  ·cases e
  ·injection e with e;injection e with _ e;rw[<-e]
theorem OZ(h:X.F.steps[k]?=some st)(hc:st.code=12):fq X 1 k o s (aq (pl o st.a).2 (pl o st.b).1 (pl o st.c).1 s) λv d g=>d=k+1/\g=o:=
 fq.step (q:=λv=>(k+1,o)) (λf=>S8 h hc s f) λa i e=>by
  unfold aq at e;split at e
  ·cases e
  ·injection e with e;injection e with _ e;rw[<-e]
end
theorem fq.bad{X:Cx}{α:Type}{c k:Nat}{o:List Vl}{s:TS}{r:TE α}{Q:α->Nat->List Vl->Prop}{w:Int}{out:List Int}(h:r= .error (w,out))(b:w=6\/w=99):fq X c k o s r Q:=by
 refine⟨λa d e=>?_,λw' f e h1 h2=>?_⟩
 ·rw[h]at e;cases e
 ·rw[h]at e;injection e with e;injection e with e1 _;omega
theorem fq.also{X:Cx}{α:Type}{c k:Nat}{o:List Vl}{s:TS}{r:TE α}{Q:α->Nat->List Vl->Prop}(h:fq X c k o s r Q):fq X c k o s r λa b d=>Q a b d/\∃f,r= .ok (a,f):=by
 refine⟨λa f e=>?_,h.er⟩;obtain⟨n,b,d,g,i,j⟩:=h.ok a f e;exact⟨n,b,d,g,i,j,f,e⟩
structure Rd (X:Cx) (ns:Nm) (nm:List (By×Nat)) (ow:TO) (o:List Vl):Prop where
 len:o.length=X.F.types.length
 en:∀x k,gP ns x=some k->∃p,nm.lookup x=some p/\Pv X.wf p/\pl o (p:Int)=iP ow x
 zr:∀z,X.wf.no=some z->(pl o (z:Int)).1=0
theorem Rd.kp{X:Cx}(c:jl X){ns:Nm}{nm:List (By×Nat)}{ow:TO}{o o':List Vl}{a b:Nat}(h:Rd X ns nm ow o)(hk:Kp X a b o o'):Rd X ns nm ow o':=by
 refine⟨hk.len.trans h.len,λx k e=>?_,λz e=>?_⟩
 ·obtain⟨p,h1,h2,d⟩:=h.en x k e;exact⟨p,h1,h2,(hk.pl (Gp h2)).trans d⟩
 ·rw[hk.pl (MF c e)];exact h.zr z e
def Jc(fsT:By->Option eR)(fs:By->Option Mf)(g:Nat):Prop:=∀nm a,fsT nm=some a->∃G,fs nm=some G/\∀d (b:List Vl) s,b.length=a.ps.length->
 (∀r c,iq fsT g d ((a.ps.map (·.1)).zip b).reverse a.body s= .ok (r,c)->∃n,n+10000*c.fuel<=1+10000*s.fuel/\∀f,oq fs d G 0 (b++List.replicate (G.types.length-b.length) (0,none)) (li s (f+n))= .ok (r.1.getD 0,li c f))/\
 (∀w out,iq fsT g d ((a.ps.map (·.1)).zip b).reverse a.body s= .error (w,out)->w≠6->w≠99->∃n,n<=1+10000*s.fuel/\∀f,oq fs d G 0 (b++List.replicate (G.types.length-b.length) (0,none)) (li s (f+n))= .error (w,out))
section
variable (fsT : By → Option eR) (lk : By → Option Nm) (X : Cx)
def SV(a:Tr->Lm Nat)(g:Nat)(t:Tr):Prop:=∀ns ow o s w w' p b,ck lk ns t []= .ok b->a t w=some (p,w')->Ex w' X.wf->Rd X ns w.nm ow o->
 fq X (2*(w'.ss.length-w.ss.length)) w.ss.length o s (eM fsT g X.d ow t s) λv c e=>c=w'.ss.length/\Kp X w.u1 w.u2 o e/\pl e (p:Int)=v/\¬Fr X w'.u1 w'.u2 p
def SL(L:Tr->Lm Ms)(g:Nat)(t:Tr):Prop:=∀ns ow o s w w' st b,ck lk ns t []= .ok b->L t w=some (st,w')->Ex w' X.wf->Rd X ns w.nm ow o->
 (∀q:Nat,X.F.steps[w'.ss.length]?=some {st with dst:=(q:Int)}->fq X (2*(w'.ss.length-w.ss.length)+2) w.ss.length o s (eM fsT g X.d ow t s) λv c e=>c=w'.ss.length+1/\∃f,Kp X w.u1 w.u2 o f/\e=f.set q v)/\
 (st.code=2->fq X (2*(w'.ss.length-w.ss.length)) w.ss.length o s (eM fsT g X.d ow t s) λv c e=>c=w'.ss.length/\Kp X w.u1 w.u2 o e/\pl e st.a=v)
def SU(a:Tr->Nat->Lm Unit)(g:Nat)(t:Tr):Prop:=∀ns ow o s w w' b (e j:Nat) sj,ck lk ns t []= .ok b->a t e w=some ((),w')->Ex w' X.wf->Rd X ns w.nm ow o->X.F.steps[j]?=some sj->sj.code=6->sj.label=(e:Int)->
 fq X (2*(w'.ss.length-w.ss.length)) w.ss.length o s (eM fsT g X.d ow t s) λv c f=>Kp X w.u1 w.u2 o f/\c=if v.1=0 then j+1 else w'.ss.length
def SW(W:Tr->Nat->Lm Unit)(g:Nat)(t:Tr):Prop:=∀ns ow o s w w' a (e j:Nat) sj,ck lk ns t []= .ok a->W t e w=some ((),w')->Ex w' X.wf->Rd X ns w.nm ow o->X.F.steps[j]?=some sj->sj.code=6->sj.label=(e:Int)->
 fq X (2*(w'.ss.length-w.ss.length)) w.ss.length o s (eM fsT g X.d ow t s) λv b c=>Kp X w.u1 w.u2 o c/\b=if v.1=0 then w'.ss.length else j+1
end
section
variable (fsT : By → Option eR) (g d : Nat) (ow : TO) (a n : Int) (nm op : By) (l r xs : Tr)
theorem Nz:eM fsT (g+1) d ow (nd 1 a n nm op l r xs)=ar (n,none):=by simp[ij]
theorem Jd:eM fsT (g+1) d ow (nd 2 a n nm op l r xs)=ar (iP ow nm):=by simp[ij]
theorem zj:eM fsT (g+1) d ow (nd 3 a n nm [38,38] l r xs)=au (eM fsT g d ow l) λx=>if x.1=0 then ar (0,none) else au (eM fsT g d ow r) λy=>ar (gJ (decide (y.1≠0)),none):=by rw[ij];simp
theorem Eg:eM fsT (g+1) d ow (nd 3 a n nm [124,124] l r xs)=au (eM fsT g d ow l) λx=>if x.1≠0 then ar (1,none) else au (eM fsT g d ow r) λy=>ar (gJ (decide (y.1≠0)),none):=by rw[ij];simp
theorem NA(h1:op≠[38,38])(h2:op≠[124,124]):eM fsT (g+1) d ow (nd 3 a n nm op l r xs)=au (eM fsT g d ow l) λx=>au (eM fsT g d ow r) λy=>au (aw op x.1 y.1) λz=>ar (z,none):=by rw[ij];simp[h1,h2]
theorem Cy:eM fsT (g+1) d ow (nd 4 a n nm op l r xs)=au (eM fsT g d ow l) λx=>ar (if op=[45] then wrap64 (-x.1) else gJ (decide (x.1=0)),none):=by rw[ij];simp
theorem Eh{b:eR}(h:fsT nm=some b):eM fsT (g+1) d ow (nd 5 a n nm op l r xs)=au (nA fsT g d ow xs) λc=>if 40<=d then ax 5 else au (iq fsT g (d+1) ((b.ps.map (·.1)).zip c).reverse b.body) λr=>ar (r.1.getD 0,none):=by rw[ij];simp[h]
theorem NB:eM fsT (g+1) d ow (nd 6 a n nm op l r xs)=au (eM fsT g d ow l) λx=>ai x.1:=by rw[ij];simp
theorem NC:eM fsT (g+1) d ow (nd 7 a n nm op l r xs)=au (eM fsT g d ow l) λx=>au (ak x.2) λn=>ar (n,none):=by rw[ij];simp
theorem ND:eM fsT (g+1) d ow (nd 8 a n nm op l r xs)=au (eM fsT g d ow l) λx=>au (eM fsT g d ow r) λy=>au (ap x.2 y.1) λn=>ar (n,none):=by rw[ij];simp
theorem NE:eM fsT (g+1) d ow (nd 9 a n nm op l r xs)=au ah λn=>ar (n,none):=by rw[ij];simp
variable (F : Lf)
theorem L_:qZ F (nd 2 a n nm op l r xs)=iH nm:=rfl
theorem Ma{c:Int}(hc:c≠2)(w:Wr):qZ F (nd c a n nm op l r xs) w=(lb (F.L (nd c a n nm op l r xs)) λs=>lb (lB w.u1 w.u2) λ_=>lb (kQ c nm) λk=>lb (nX k) λp=>pV s p) w:=by
 show(if c=2 then iH nm else _) w=_;rw[if_neg hc]
theorem Mb:ki F (nd 1 a n nm op l r xs)=lp {fd with code:=1,n:=n}:=rfl
theorem Mc:ki F (nd 2 a n nm op l r xs)=lb (iH nm) λp=>lp {fd with code:=2,a:=p}:=rfl
theorem AG:ki F (nd 3 a n nm op l r xs)=tj F (nd 3 a n nm op l r xs) op l r:=rfl
theorem Md:ki F (nd 4 a n nm op l r xs)=ye F op l:=rfl
theorem Me:ki F (nd 5 a n nm op l r xs)=lb (lK F.V (mf xs)) λb=>lp {fd with code:=7,name:=nm,args:=b}:=rfl
theorem Mg:ki F (nd 6 a n nm op l r xs)=lb (F.V l) λx=>lp {fd with code:=9,a:=x}:=rfl
theorem Mh:ki F (nd 7 a n nm op l r xs)=lb (F.V l) λx=>lp {fd with code:=10,a:=x}:=rfl
theorem Mi:ki F (nd 8 a n nm op l r xs)=lb (F.V l) λx=>lb (F.V r) λy=>lp {fd with code:=11,a:=x,b:=y}:=rfl
theorem Mj:ki F (nd 9 a n nm op l r xs)=lp {fd with code:=14}:=rfl
end
section
variable {lk : By → Option Nm} {ns : Nm} {a n : Int} {nm op : By} {l r xs : Tr} {ps : Nm} {kk : Int}
theorem vw(h:ck lk ns (nd 2 a n nm op l r xs) ps= .ok kk):gP ns nm=some kk:=by
 rw[ck]at h;simp only[if_pos]at h;split at h
 ·rename_i k e;injection h with h;rw[e,h]
 ·cases h
theorem oT(h:ck lk ns (nd 3 a n nm op l r xs) ps= .ok kk):(∃k,ck lk ns l []= .ok k/\k=1)/\(∃k,ck lk ns r []= .ok k/\k=1)/\kk=1:=by
 rw[ck]at h;simp only[show ¬(3:Int)=2 by decide,if_false,if_true]at h;obtain⟨t,h1,h⟩:=eE h;obtain⟨_,h2,h⟩:=eE h;obtain⟨u,b,h⟩:=eE h;obtain⟨_,c,h⟩:=eE h;unfold vT at h2 c;split at h2
 ·split at c
  ·injection h with h;exact⟨⟨t,h1,by assumption⟩,⟨u,b,by assumption⟩,h.symm⟩
  ·cases c
 ·cases h2
theorem uj(h:ck lk ns (nd 4 a n nm op l r xs) ps= .ok kk):(∃k,ck lk ns l []= .ok k/\k=1)/\kk=1:=by
 rw[ck]at h;simp only[show ¬(4:Int)=2 by decide,show ¬(4:Int)=3 by decide,if_false,if_true]at h;obtain⟨t,h1,h⟩:=eE h;obtain⟨_,h2,h⟩:=eE h;unfold vT at h2;split at h2
 ·injection h with h;exact⟨⟨t,h1,by assumption⟩,h.symm⟩
 ·cases h2
theorem Cz(h:ck lk ns (nd 5 a n nm op l r xs) ps= .ok kk):∃b,lk nm=some b/\qw xs=b.length/\(∃k,ck lk ns xs b= .ok k)/\kk=1:=by
 rw[ck]at h;simp only[show ¬(5:Int)=2 by decide,show ¬(5:Int)=3 by decide,show ¬(5:Int)=4 by decide,if_false,if_true]at h;split at h
 ·cases h
 ·rename_i b e;split at h
  ·cases h
  ·rename_i c;obtain⟨t,h1,h⟩:=eE h;injection h with h;exact⟨b,e,by simpa using c,⟨t,h1⟩,h.symm⟩
theorem CA(h:ck lk ns (nd 6 a n nm op l r xs) ps= .ok kk):(∃k,ck lk ns l []= .ok k/\k=1)/\kk=2:=by
 rw[ck]at h;simp only[show ¬(6:Int)=2 by decide,show ¬(6:Int)=3 by decide,show ¬(6:Int)=4 by decide,show ¬(6:Int)=5 by decide,if_false,if_true]at h;obtain⟨t,h1,h⟩:=eE h;obtain⟨_,h2,h⟩:=eE h;unfold vT at h2;split at h2
 ·injection h with h;exact⟨⟨t,h1,by assumption⟩,h.symm⟩
 ·cases h2
theorem CB(h:ck lk ns (nd 7 a n nm op l r xs) ps= .ok kk):(∃k,ck lk ns l []= .ok k/\k=2)/\kk=1:=by
 rw[ck]at h;simp only[show ¬(7:Int)=2 by decide,show ¬(7:Int)=3 by decide,show ¬(7:Int)=4 by decide,show ¬(7:Int)=5 by decide,show ¬(7:Int)=6 by decide,if_false,if_true]at h;obtain⟨t,h1,h⟩:=eE h;obtain⟨_,h2,h⟩:=eE h;unfold vT at h2;split at h2
 ·injection h with h;exact⟨⟨t,h1,by assumption⟩,h.symm⟩
 ·cases h2
theorem zk(h:ck lk ns (nd 8 a n nm op l r xs) ps= .ok kk):(∃k,ck lk ns l []= .ok k/\k=2)/\(∃k,ck lk ns r []= .ok k/\k=1)/\kk=1:=by
 rw[ck]at h;simp only[show ¬(8:Int)=2 by decide,show ¬(8:Int)=3 by decide,show ¬(8:Int)=4 by decide,show ¬(8:Int)=5 by decide,show ¬(8:Int)=6 by decide,show ¬(8:Int)=7 by decide,if_false,if_true]at h;obtain⟨t,h1,h⟩:=eE h;obtain⟨_,h2,h⟩:=eE h;obtain⟨u,b,h⟩:=eE h;obtain⟨_,c,h⟩:=eE h;unfold vT at h2 c;split at h2
 ·split at c
  ·injection h with h;exact⟨⟨t,h1,by assumption⟩,⟨u,b,by assumption⟩,h.symm⟩
  ·cases c
 ·cases h2
theorem Je(h:ck lk ns (nd 1 a n nm op l r xs) ps= .ok kk\/ck lk ns (nd 9 a n nm op l r xs) ps= .ok kk):kk=1:=by
 rcases h with h|h
 ·rw[ck]at h;simp at h;exact h.symm
 ·rw[ck]at h;simp at h;exact h.symm
theorem QO{x:Tr}{p:By×Int}(h:ck lk ns (cc x xs) (p::ps)= .ok kk):(∃k,ck lk ns x []= .ok k/\k=p.2)/\∃k,ck lk ns xs ps= .ok k:=by
 rw[ck]at h;obtain⟨t,h1,h⟩:=eE h;obtain⟨_,h2,h⟩:=eE h;unfold vT at h2;split at h2
 ·exact⟨⟨t,h1,by assumption⟩,kk,h⟩
 ·cases h2
end
section
variable {fsT : By → Option eR} {lk : By → Option Nm} {X : Cx}
theorem jq(a:jl X){w w':Wr}{st:Ms}(b:Ex w' X.wf)(h:w'.ss=w.ss++[st]):X.F.steps[w.ss.length]?=some st:=by
 rw[<-a.ss];exact eN b.ss (by rw[h];simp)
theorem FA(d:Nat)(ow:TO)(t:Tr)(s:TS):eM fsT 0 d ow t s= .error (99,s.out):=rfl
theorem Ro(a:jl X){ns:Nm}{ow:TO}{o:List Vl}{w w':Wr}{p:Nat}(b:Ex w' X.wf)(h:(w'.u1=w.u1+1/\w'.u2=w.u2/\w'.sp1[w.u1]?=some p)\/(w'.u1=w.u1/\w'.u2=w.u2+1/\w'.sp2[w.u2]?=some p)):¬Fr X w'.u1 w'.u2 p/\Fr X w.u1 w.u2 p:=by
 rcases h with⟨h1,h2,c⟩|⟨h1,h2,c⟩
 ·exact⟨Gs a (eN b.p1 c) (by omega),.inl ⟨w.u1,aD _,eN b.p1 c⟩⟩
 ·exact⟨OW a (eN b.p2 c) (by omega),.inr ⟨w.u2,aD _,eN b.p2 c⟩⟩
theorem OG(E:jl X){F:Lf}(S:iR F){g:Nat}{t:Tr}{e dd:Nat}(H:RE e dd t)(hL:SL fsT lk X F.L g t):SV fsT lk X (qZ F) g t:=by
 intro ns ow o s w w' p kk i h B K;obtain⟨c,a,n,nm,y,l,r,xs,rfl⟩:∃c a n nm y l r g,t=nd c a n nm y l r g:=by
  cases e with
  |zero=>exact H.elim
  |succ e=>
   rw[RE]at H;rcases H.2 with⟨a,n,-,-,rfl⟩|⟨a,nm,-,rfl⟩|⟨a,y,l,r,-,-,-,rfl⟩|⟨a,y,l,-,-,rfl⟩|⟨a,nm,xs,-,-,rfl⟩|⟨a,l,-,rfl⟩|⟨a,l,-,rfl⟩|⟨a,l,r,-,-,rfl⟩|⟨a,rfl⟩<;>exact⟨_,_,_,_,_,_,_,_,rfl⟩
 by_cases hc:c=2
 ·subst hc;rw[L_]at h;obtain⟨Y,rfl⟩:=mM h;subst Y;obtain⟨q,V,C,hv⟩:=K.en _ _ (vw i);have eq:nG w'.nm nm=q:=by unfold nG;rw[V];rfl
  rw[eq];cases g with
  |zero=>exact fq.bad (FA _ _ _ _) (.inr (by decide))
  |succ g=>
   rw[Jd];exact(fq.pure (Q:=λv I u=>I=w'.ss.length/\Kp X w'.u1 w'.u2 o u/\pl u (q:Int)=v/\¬Fr X w'.u1 w'.u2 q) ⟨rfl,Kp.refl _ _ _ _,hv,Gp C⟩).mono (aQ _) λ_ _ _ h=>h
 ·have A1:=Mq S h;rw[Ma _ _ _ _ _ _ _ _ hc]at h;obtain⟨st,w1,h1,h⟩:=d_ h;obtain⟨_,w2,h2,h⟩:=d_ h;obtain⟨k,P,h3,h⟩:=d_ h;obtain⟨p',w4,h4,h5⟩:=d_ h;obtain⟨a1,a2,a3,a8⟩:=S.L _ _ _ _ h1;obtain⟨b1,J⟩:=iE h2;obtain⟨e3,-,-⟩:=zB h3;obtain⟨c1,c0,M⟩:=vF h4;obtain⟨rfl,A,d2,d3,d4⟩:=Ba h5 a8;subst e3;have W:P.u1=w.u1:=by rw[J]
  have e2:P.u2=w.u2:=by rw[J]
  have N:w4.ss=w1.ss:=by rw[c0,J]
  have D:(w'.u1=w.u1+1/\w'.u2=w.u2/\w'.sp1[w.u1]?=some p)\/(w'.u1=w.u1/\w'.u2=w.u2+1/\w'.sp2[w.u2]?=some p):=by
   rw[W,e2]at M;rcases M with⟨-,x,d,b⟩|⟨-,x,d,b⟩
   ·exact .inl ⟨by omega,by omega,eN A.ex.p1 b⟩
   ·exact .inr ⟨by omega,by omega,eN A.ex.p2 b⟩
  obtain⟨m,f⟩:=Ro E (ns:=ns) (ow:=ow) (o:=o) B D;have z:=Gt E f;have j:=((b1.ex.trans c1.ex).trans A.ex).trans B;obtain⟨g1,Z⟩:=hL ns ow o s w w1 st kk i h1 j K;have A0:=a1.ex.sl;rcases d4 with⟨U,f2,G⟩|⟨U,G⟩
  ·subst G;rw[N];exact(Z U).mono (aD _) λv I u ⟨x,d,b⟩=>⟨x,d,by rw[<-f2];exact b,m⟩
  ·have O:w'.ss=w1.ss++[{st with dst:=(p:Int)}]:=by rw[G,N]
   have T:w'.ss.length=w1.ss.length+1:=by rw[O];simp
   refine(g1 p (jq E B O)).mono (by omega) λv I u ⟨x,o1,d,b⟩=>?_;subst b;exact⟨by omega,d.trans (Kp.set f _ _),tD (by rw[d.len,K.len];exact z) _,m⟩
theorem BA{g:Nat}{t:Tr}{ow:TO}{o:List Vl}{s:TS}{w w':Wr}{st:Ms}(hc:st.code=2)
  (h:fq X (2*(w'.ss.length-w.ss.length)) w.ss.length o s (eM fsT g X.d ow t s) λv b c=>b=w'.ss.length/\Kp X w.u1 w.u2 o c/\pl c st.a=v) (q:Nat) (e:X.F.steps[w'.ss.length]?=some {st with dst:=(q:Int)}):
  fq X (2*(w'.ss.length-w.ss.length)+2) w.ss.length o s (eM fsT g X.d ow t s) λv b c=>b=w'.ss.length+1/\∃f,Kp X w.u1 w.u2 o f/\c=f.set q v:=by
 refine(h.behind (m:=1) (Q':=λv b c=>b=w'.ss.length+1/\∃f,Kp X w.u1 w.u2 o f/\c=f.set q v) ?_).mono (by omega) λ_ _ _ h=>h;rintro v i f j ⟨rfl,h1,h2⟩;refine⟨1,_,_,aD _,TY e hc,rfl,f,h1,?_⟩;rw[<-h2];rfl
theorem mN{α b:Type}{x:TG α}{f:α->TG b}{s:TS}{r:b×TS}(h:au x f s= .ok r):∃a c,x s= .ok (a,c)/\f a c= .ok r:=by
 unfold au at h;split at h
 ·cases h
 ·exact⟨_,_,by assumption,h⟩
theorem Rp{g:Nat}{ow:TO}{d:Nat}{a n:Int}{nm c:By}{l r xs:Tr}{s e:TS}{v:Vl}(f:c=[38,38]\/c=[124,124])(h:eM fsT g d ow (nd 3 a n nm c l r xs) s= .ok (v,e)):v=(0,none)\/v=(1,none):=by
 have i:∀b,(gJ b,(none:Option Nat))=(0,none)\/(gJ b,(none:Option Nat))=(1,none):=λb=>by cases b<;>simp[gJ]
 cases g with
 |zero=>cases h
 |succ g=>
  rcases f with rfl|rfl
  ·rw[zj]at h;obtain⟨x,j,-,h⟩:=mN h;split at h
   ·injection h with h;injection h with h _;exact .inl h.symm
   ·obtain⟨y,k,-,h⟩:=mN h;injection h with h;injection h with h _;rw[<-h];exact i _
  ·rw[Eg]at h;obtain⟨x,j,-,h⟩:=mN h;split at h
   ·injection h with h;injection h with h _;exact .inr h.symm
   ·obtain⟨y,k,-,h⟩:=mN h;injection h with h;injection h with h _;rw[<-h];exact i _
theorem FB(b:jl X){F:Lf}(c:iR F){g:Nat}{a n:Int}{nm f:By}{l r xs:Tr}(i:f=[38,38]\/f=[124,124])(j:SU fsT lk X F.U g (nd 3 a n nm f l r xs)){ns:Nm}{ow:TO}{o:List Vl}{s:TS}{w w':Wr}{st:Ms}{k:Int}
  (q:ck lk ns (nd 3 a n nm f l r xs) []= .ok k) (h:lW F.U (nd 3 a n nm f l r xs) w=some (st,w')) (t:Ex w' X.wf) (u:Rd X ns w.nm ow o):
  st.code=2/\fq X (2*(w'.ss.length-w.ss.length)) w.ss.length o s (eM fsT g X.d ow (nd 3 a n nm f l r xs) s) λv x y=>x=w'.ss.length/\Kp X w.u1 w.u2 o y/\pl y st.a=v:=by
 unfold lW at h;obtain⟨p,w1,h1,h⟩:=d_ h;obtain⟨e,z,h2,h⟩:=d_ h;obtain⟨_,A,B,h⟩:=d_ h;obtain⟨_,C,D,h⟩:=d_ h;obtain⟨_,E,G,h⟩:=d_ h;obtain⟨_,H,I,h⟩:=d_ h;obtain⟨rfl,rfl⟩:=iy h;refine⟨rfl,?_⟩;obtain⟨J,K,L,M,N⟩:=mK h1;obtain⟨O,P,Q,-,-,S⟩:=fY h2;obtain⟨T,V,W,Y⟩:=fM B (by simp);obtain⟨Z,f,H⟩:=c.U _ _ _ _ D;obtain⟨K,L,P,Q⟩:=fM G (by simp);unfold jt at I;obtain⟨W,B,Y,f⟩:=fM I (by simp);have c:=t;have H:=B.ex.trans c;have P:=L.ex.trans H;have G:=Z.ex.trans P;have Q:=(O.ex.trans V.ex).trans G;have Y:z.ss=w.ss:=by rw[S,N]
 have I:A.ss=w.ss++[{fd with code:=1,dst:=(p:Int)}]:=by rw[T,Y]
 have f:E.ss=C.ss++[{fd with code:=1,dst:=(p:Int),n:=1}]:=by rw[K]
 have t:w'.ss=E.ss++[{fd with code:=6,label:=(e:Int)}]:=by rw[W]
 have B:A.ss.length=w.ss.length+1:=by rw[I];simp
 have L:E.ss.length=C.ss.length+1:=by rw[f];simp
 have z:w'.ss.length=E.ss.length+1:=by rw[t];simp
 have N:=Z.ex.sl;have S:=jq b G I;have T:=jq b H f;have Y:=jq b c t;have K:=eN Q.p1 M;have W:Fr X w.u1 w.u2 p:= .inl ⟨w.u1,aD _,K⟩;have Z:¬Fr X A.u1 A.u2 p:=Gs b K (by omega);have N:=Gt b W;have G:Kp X w.u1 w.u2 o (o.set p (0,none)):=Kp.set W _ _;have I:=u.kp b G;have H:A.nm=w.nm:=by rw[V.nm,O.nm,J.nm]
 rw[<-H]at I;have f:=j ns ow (o.set p (0,none)) s A C k e E.ss.length _ q D P I Y rfl rfl;rw[B]at f;have c:=fq.ahead (m:=1) (Gu (o:=o) (s:=s) S) f.also;refine(c.behind (m:=2) (Q':=λv x y=>x=w'.ss.length/\Kp X w.u1 w.u2 o y/\pl y (p:Int)=v) ?_).mono (by omega) λ_ _ _ h=>h;rintro v t o2 s2' ⟨⟨M,Q⟩,K,b⟩;have J:Kp X w.u1 w.u2 (o.set p (0,none)) o2:=M.mono (by omega) (by omega);have O:pl o2 (p:Int)=(0,none):=by rw[M.pl Z];exact tD (by rw[u.len];exact N) _
 rcases Rp i b with rfl|rfl
 ·rw[if_pos rfl]at Q;subst Q;exact⟨0,_,_,by omega,To.refl _ _ _ _,by omega,G.trans J,O⟩
 ·rw[if_neg (by decide)]at Q;subst Q;have V:To X 1 C.ss.length o2 s2' (C.ss.length+1) (o2.set p (1,none)) s2':=Gu T;have H:To X 1 (C.ss.length+1) (o2.set p (1,none)) s2' (w'.ss.length) (o2.set p (1,none)) s2':=by rw[z,<-L];exact Dn Y rfl
  refine⟨2,_,_,aD _,V.trans H,rfl,?_,?_⟩
  ·exact(G.trans J).trans (Kp.set W _ _)
  ·exact tD (by rw[J.len,cP,u.len];exact N) _
end
section
variable {fsT : By → Option eR} {lk : By → Option Nm} {X : Cx}
def Fu{α:Type}(x:TG α):Prop:=∀s a b,x s= .ok (a,b)->b.fuel=s.fuel
theorem ni{α:Type}(a:α):Fu (ar a):=λs b c h=>by injection h with h;injection h with _ h;rw[h]
theorem Mu{α:Type}(w:Int):Fu (ax w:TG α):=λs b a h=>by cases h
theorem Be{α c:Type}{x:TG α}{f:α->TG c}(d:Fu x)(e:∀a,Fu (f a)):Fu (au x f):=λs b g h=>by
 obtain⟨a,i,h1,h2⟩:=mN h;rw[e a i b g h2,d s a i h1]
theorem sI{α:Type}{c:Prop}[Decidable c]{x y:TG α}(a:Fu x)(b:Fu y):Fu (if c then x else y):=by
 split
 ·exact a
 ·exact b
theorem JT(c:By)(a b:Int):Fu (aw c a b):=by
 unfold aw;exact sI (ni _) (sI (ni _) (sI (ni _) (sI (sI (Mu _) (ni _)) (sI (sI (Mu _) (ni _)) (ni _)))))
theorem Og(n:Int):Fu (ai n):=λs b a h=>by
 unfold ai at h;split at h
 ·cases h
 ·injection h with h;injection h with _ h;rw[<-h]
theorem JU:Fu ah:=λs b a h=>by injection h with h;injection h with _ h;rw[<-h]
theorem Oh(q:Option Nat):Fu (ak q):=λs b a h=>by injection h with h;injection h with _ h;rw[<-h]
theorem JV(q:Option Nat)(i:Int):Fu (ap q i):=λs b a h=>by
 unfold ap at h;split at h
 ·cases h
 ·injection h with h;injection h with _ h;rw[<-h]
theorem Bf{a:By}(h:1<=fT a)(h1:a≠[38,38])(h2:a≠[124,124]):a∈([[43],[45],[42],[47],[37],[61,61],[33,61],[60],[60,61],[62],[62,61]]:List By):=by
 obtain⟨x,b,rfl,-⟩:=rb h;simp only[gA,aY,dy,or_false]at b;rcases b with rfl|rfl|rfl|rfl|rfl|rfl|rfl|rfl|rfl|rfl|rfl|rfl|rfl
 ·exact absurd rfl h2
 ·exact absurd rfl h1
 all_goals simp
theorem lu{k:Nat}{o:List Vl}{s:TS}{st:Ms}{q:Nat}(h:X.F.steps[k]?=some {st with dst:=(q:Int)})(a:AD st.code){x:TG Vl}(b:∀g,wJ x (eI X.fs g X.d {st with dst:=(q:Int)} o))(c:Fu x):fq X 1 k o s (x s) λv e f=>e=k+1/\f=o.set q v:=by
 refine(RO h a b (c s)).mono (aD _) λv e f ⟨h1,h2⟩=>⟨h1,?_⟩;dsimp only at h2;rw[aR]at h2;exact h2
variable {F : Lf}
theorem Ts(c:jl X)(f:iR F){g:Nat}{a n:Int}{nm op:By}{l r xs:Tr}(i:1<=fT op)(h1:op≠[38,38])(h2:op≠[124,124])(j:SV fsT lk X F.V g l)(k:SV fsT lk X F.V g r):SL fsT lk X (ki F) (g+1) (nd 3 a n nm op l r xs):=by
 intro ns ow o s w w' st m t h u A;rw[AG]at h;unfold tj at h;rw[if_neg (by simp[h1,h2])]at h;obtain⟨p,w1,B,h⟩:=d_ h;obtain⟨q,C,D,h⟩:=d_ h;obtain⟨rfl,E⟩:=iy h;subst E;refine⟨λdst G=>?_,λhc=>absurd hc (by show ¬(3:Int)=2;decide)⟩;obtain⟨⟨H,I,-⟩,⟨J,K,-⟩,-⟩:=oT t;obtain⟨L,M⟩:=f.V _ _ _ _ B;obtain⟨N,O⟩:=f.V _ _ _ _ D;have P:=M.le;have Q:=L.ex.sl;have S:=N.ex.sl;rw[NA _ _ _ _ _ _ _ _ _ _ _ h1 h2];refine(fq.bind (j ns ow o s w w1 p H I B (N.ex.trans u) A) (e:=2*(w'.ss.length-w1.ss.length)+1) (R:=λv T U=>T=w'.ss.length+1/\∃W,Kp X w.u1 w.u2 o W/\U=W.set dst v) ?_).mono (by omega) λ_ _ _ h=>h;rintro x Y W Z ⟨rfl,Y,m,C⟩-;have t:=A.kp c Y;rw[<-L.nm]at t;refine(fq.bind (k ns ow W Z w1 w' q J K D u t) (e:=1) (R:=λv T U=>T=w'.ss.length+1/\∃W,Kp X w.u1 w.u2 o W/\U=W.set dst v) ?_).mono (by omega) λ_ _ _ h=>h;rintro y f O M ⟨rfl,f,Q,j⟩-;have B:pl O (p:Int)=x:=by rw[f.pl C,m]
 refine(lu (x:=au (aw op x.1 y.1) λz=>ar (z,none)) G (show AD 3 by decide) (λg'=>?_) (Be (JT _ _ _) λ_=>ni _)).mono (aD _) λv T U ⟨H,E⟩=>⟨H,O,Y.trans (f.mono P.1 P.2),E⟩;have:eI X.fs g' X.d {fd with code:=3,op:=op,a:=(p:Int),b:=(q:Int),dst:=(dst:Int)} O=gb (gU op (pl O (p:Int)).1 (pl O (q:Int)).1) λn=>gp (n,none):=by unfold eI;simp
 rw[this,B,Q];exact vd (DY (Bf i h1 h2) _ _) λ_=>qL _
theorem Tt(c:jl X)(i:iR F){g:Nat}{a n:Int}{nm op:By}{l r xs:Tr}(j:op=[45]\/op=[33])(k:SV fsT lk X F.V g l):SL fsT lk X (ki F) (g+1) (nd 4 a n nm op l r xs):=by
 intro ns ow o s w w' st m q h t u;rw[Md]at h;unfold ye at h;obtain⟨p,w1,y,h⟩:=d_ h;obtain⟨z,A,B,h⟩:=d_ h;obtain⟨rfl,C⟩:=iy h;subst C;obtain⟨⟨D,E,-⟩,-⟩:=uj q;obtain⟨G,H⟩:=i.V _ _ _ _ y;obtain⟨I,J,K,L,M⟩:=nR B;have N:=H.le;have O:=G.ex.sl;refine⟨λdst P=>?_,λhc=>absurd hc (by split<;>(show ¬(3:Int)=2;decide))⟩;rw[M]at P⊢;rw[Cy];refine(fq.bind (k ns ow o s w w1 p D E y (I.ex.trans t) u) (e:=1) (R:=λv Q S=>Q=w1.ss.length+1/\∃T,Kp X w.u1 w.u2 o T/\S=T.set dst v) ?_).mono (by omega) λ_ _ _ h=>h;rintro x U T W ⟨rfl,U,Y,Z⟩-;have m:=(u.kp c U).zr z (t.no z L);rcases j with rfl|rfl
 ·rw[if_pos rfl]at P⊢;refine(lu (x:=ar (wrap64 (-x.1),none)) P (show AD 3 by decide) (λg'=>?_) (ni _)).mono (aD _) λv Q S ⟨A,C⟩=>⟨A,T,U,C⟩;have:eI X.fs g' X.d {fd with code:=3,op:=[45],a:=(z:Int),b:=(p:Int),dst:=(dst:Int)} T=gb (gU [45] (pl T (z:Int)).1 (pl T (p:Int)).1) λn=>gp (n,none):=by unfold eI;simp
  rw[this,Y,m];exact λs f=>by simp[gU,gj,gb,gp,ar]
 ·rw[if_neg (by decide)]at P⊢;refine(lu (x:=ar (gJ (decide (x.1=0)),none)) P (show AD 3 by decide) (λg'=>?_) (ni _)).mono (aD _) λv Q S ⟨A,C⟩=>⟨A,T,U,C⟩;have:eI X.fs g' X.d {fd with code:=3,op:=[61,61],a:=(p:Int),b:=(z:Int),dst:=(dst:Int)} T=gb (gU [61,61] (pl T (p:Int)).1 (pl T (z:Int)).1) λn=>gp (n,none):=by unfold eI;simp
  rw[this,Y,m];exact λs f=>by simp[gU,gj,nh,gb,gp,ar,gJ]
theorem Tu(b:jl X){g:Nat}{a n:Int}{nm c:By}{l r xs:Tr}:SL fsT lk X (ki F) (g+1) (nd 1 a n nm c l r xs):=by
 intro ns ow o s w w' st d e h f i;rw[Mb]at h;obtain⟨rfl,j⟩:=iy h;subst j;refine⟨λk p=>?_,λhc=>absurd hc (by show ¬(1:Int)=2;decide)⟩;rw[Nz];refine(fq.ahead (m:=1) (Gu (o:=o) (s:=s) p) (fq.pure (a:=((n,none):Vl)) (Q:=λv q t=>q=w'.ss.length+1/\∃u,Kp X w'.u1 w'.u2 o u/\t=u.set k v) ⟨rfl,o,Kp.refl _ _ _ _,rfl⟩)).mono (by omega) λ_ _ _ h=>h
theorem Tv(b:jl X){g:Nat}{a n:Int}{nm c:By}{l r xs:Tr}:SL fsT lk X (ki F) (g+1) (nd 2 a n nm c l r xs):=by
 intro ns ow o s w w' st e f h i j;rw[Mc]at h;obtain⟨p,w1,k,h⟩:=d_ h;obtain⟨rfl,m⟩:=iy h;subst m;obtain⟨t,rfl⟩:=mM k;subst t;obtain⟨q,u,x,y⟩:=j.en _ _ (vw f);have z:nG w'.nm nm=q:=by unfold nG;rw[u];rfl
 rw[z];have h2:fq X (2*(w'.ss.length-w'.ss.length)) w'.ss.length o s (eM fsT (g+1) X.d ow (nd 2 a n nm c l r xs) s) λv A B=>A=w'.ss.length/\Kp X w'.u1 w'.u2 o B/\pl B (q:Int)=v:=by
  rw[Jd];exact(fq.pure (Q:=λv A B=>A=w'.ss.length/\Kp X w'.u1 w'.u2 o B/\pl B (q:Int)=v) ⟨rfl,Kp.refl _ _ _ _,y⟩).mono (aQ _) λ_ _ _ h=>h
 exact⟨λC D=>BA (st:={fd with code:=2,a:=(q:Int)}) rfl h2 C D,λ_=>h2⟩
theorem Tw(b:jl X)(c:iR F){g:Nat}{a n:Int}{nm f:By}{l r xs:Tr}(i:SV fsT lk X F.V g l):SL fsT lk X (ki F) (g+1) (nd 6 a n nm f l r xs):=by
 intro ns ow o s w w' st j k h m q;rw[Mg]at h;obtain⟨p,w1,t,h⟩:=d_ h;obtain⟨rfl,u⟩:=iy h;subst u;refine⟨λdst y=>?_,λhc=>absurd hc (by show ¬(9:Int)=2;decide)⟩;obtain⟨⟨z,A,-⟩,-⟩:=CA k;rw[NB];refine(fq.bind (i ns ow o s w w' p z A t m q) (e:=1) (R:=λv B C=>B=w'.ss.length+1/\∃D,Kp X w.u1 w.u2 o D/\C=D.set dst v) ?_).mono (by omega) λ_ _ _ h=>h;rintro x E D G ⟨rfl,E,H,I⟩-;refine(lu (x:=ai x.1) y (show AD 9 by decide) (λg'=>?_) (Og _)).mono (aD _) λv B C ⟨J,u⟩=>⟨J,D,E,u⟩;have:eI X.fs g' X.d {fd with code:=9,a:=(p:Int),dst:=(dst:Int)} D=qj (pl D (p:Int)).1:=by unfold eI;simp
 rw[this,H];exact IR _
theorem Tx(b:jl X)(c:iR F){g:Nat}{a n:Int}{nm f:By}{l r xs:Tr}(i:SV fsT lk X F.V g l):SL fsT lk X (ki F) (g+1) (nd 7 a n nm f l r xs):=by
 intro ns ow o s w w' st j k h m q;rw[Mh]at h;obtain⟨p,w1,t,h⟩:=d_ h;obtain⟨rfl,u⟩:=iy h;subst u;refine⟨λdst y=>?_,λhc=>absurd hc (by show ¬(10:Int)=2;decide)⟩;obtain⟨⟨z,A,-⟩,-⟩:=CB k;rw[NC];refine(fq.bind (i ns ow o s w w' p z A t m q) (e:=1) (R:=λv B C=>B=w'.ss.length+1/\∃D,Kp X w.u1 w.u2 o D/\C=D.set dst v) ?_).mono (by omega) λ_ _ _ h=>h;rintro x E D G ⟨rfl,E,H,I⟩-;refine(lu (x:=au (ak x.2) λn=>ar (n,none)) y (show AD 10 by decide) (λg'=>?_) (Be (Oh _) λ_=>ni _)).mono (aD _) λv B C ⟨J,u⟩=>⟨J,D,E,u⟩;have:eI X.fs g' X.d {fd with code:=10,a:=(p:Int),dst:=(dst:Int)} D=gb (zX (pl D (p:Int)).2) λn=>gp (n,none):=by unfold eI;simp
 rw[this,H];exact vd (IU _) λ_=>qL _
theorem Ty(c:jl X)(f:iR F){g:Nat}{a n:Int}{nm i:By}{l r xs:Tr}(j:SV fsT lk X F.V g l)(k:SV fsT lk X F.V g r):SL fsT lk X (ki F) (g+1) (nd 8 a n nm i l r xs):=by
 intro ns ow o s w w' st m t h u A;rw[Mi]at h;obtain⟨p,w1,B,h⟩:=d_ h;obtain⟨q,C,D,h⟩:=d_ h;obtain⟨rfl,E⟩:=iy h;subst E;refine⟨λdst G=>?_,λhc=>absurd hc (by show ¬(11:Int)=2;decide)⟩;obtain⟨⟨H,I,-⟩,⟨J,K,-⟩,-⟩:=zk t;obtain⟨L,M⟩:=f.V _ _ _ _ B;obtain⟨N,O⟩:=f.V _ _ _ _ D;have P:=M.le;have Q:=L.ex.sl;have S:=N.ex.sl;rw[ND];refine(fq.bind (j ns ow o s w w1 p H I B (N.ex.trans u) A) (e:=2*(w'.ss.length-w1.ss.length)+1) (R:=λv T U=>T=w'.ss.length+1/\∃W,Kp X w.u1 w.u2 o W/\U=W.set dst v) ?_).mono (by omega) λ_ _ _ h=>h;rintro x Y W Z ⟨rfl,Y,i,m⟩-;have C:=A.kp c Y;rw[<-L.nm]at C;refine(fq.bind (k ns ow W Z w1 w' q J K D u C) (e:=1) (R:=λv T U=>T=w'.ss.length+1/\∃W,Kp X w.u1 w.u2 o W/\U=W.set dst v) ?_).mono (by omega) λ_ _ _ h=>h;rintro y t f O ⟨rfl,t,M,Q⟩-;have j:pl f (p:Int)=x:=by rw[t.pl m,i]
 refine(lu (x:=au (ap x.2 y.1) λz=>ar (z,none)) G (show AD 11 by decide) (λg'=>?_) (Be (JV _ _) λ_=>ni _)).mono (aD _) λv T U ⟨B,E⟩=>⟨B,f,Y.trans (t.mono P.1 P.2),E⟩;have:eI X.fs g' X.d {fd with code:=11,a:=(p:Int),b:=(q:Int),dst:=(dst:Int)} f=gb (lQ (pl f (p:Int)).2 (pl f (q:Int)).1) λn=>gp (n,none):=by unfold eI;simp
 rw[this,j,M];exact vd (DX _ _) λ_=>qL _
theorem Tz(b:jl X){g:Nat}{a n:Int}{nm c:By}{l r xs:Tr}:SL fsT lk X (ki F) (g+1) (nd 9 a n nm c l r xs):=by
 intro ns ow o s w w' st e f h i j;rw[Mj]at h;obtain⟨rfl,k⟩:=iy h;subst k;refine⟨λdst m=>?_,λhc=>absurd hc (by show ¬(14:Int)=2;decide)⟩;rw[NE];refine(lu (x:=au ah λz=>ar (z,none)) m (show AD 14 by decide) (λg'=>?_) (Be JU λ_=>ni _)).mono (by omega) λv p q ⟨t,k⟩=>⟨t,o,Kp.refl _ _ _ _,k⟩;have:eI X.fs g' X.d {fd with code:=14,dst:=(dst:Int)} o=gb rE λn=>gp (n,none):=by unfold eI;simp
 rw[this];exact vd DW λ_=>qL _
end
section
variable {fsT : By → Option eR} {lk : By → Option Nm} {X : Cx} {F : Lf}
theorem QK(d:Nat)(ow:TO)(t:Tr)(s:TS):nA fsT 0 d ow t s= .error (99,s.out):=rfl
theorem D_(g d:Nat)(ow:TO):nA fsT (g+1) d ow ce=ar []:=by rw[qz]
theorem Nq(g d:Nat)(ow:TO)(x xs:Tr):nA fsT (g+1) d ow (cc x xs)=au (eM fsT g d ow x) λv=>au (nA fsT g d ow xs) λa=>ar (v::a):=by rw[qz]
theorem eZ:∀xs:List Tr,mf (chain xs)=xs
 |[]=>rfl
 |x::xs=>by show x::mf (chain xs)=_;rw[eZ xs]
theorem oQ:∀xs:List Tr,qw (chain xs)=xs.length
 |[]=>rfl
 |x::xs=>by show qw (chain xs)+1=_;rw[oQ xs];rfl
theorem Ea(a:jl X)(b:iR F){ns:Nm}{ow:TO}:∀(xs:List Tr)(g:Nat)(c:Nm)(o:List Vl)(s:TS)(w w':Wr)(f:List Int)(i:Int),(∀x∈xs,∀g'≤g,SV fsT lk X F.V g' x)->xs.length=c.length->ck lk ns (chain xs) c= .ok i->lK F.V xs w=some (f,w')->Ex w' X.wf->Rd X ns w.nm ow o->
  fq X (2*(w'.ss.length-w.ss.length)) w.ss.length o s (nA fsT g X.d ow (chain xs) s) λj k l=>k=w'.ss.length/\Kp X w.u1 w.u2 o l/\f.map (pl l)=j/\∀p∈f,∃q:Nat,p=(q:Int)/\¬Fr X w'.u1 w'.u2 q
 |xs,0,c,o,s,w,w',f,i,m,n,r,h,t,u=>fq.bad (QK _ _ _ _) (.inr (by decide))
 |[],g+1,c,o,s,w,w',f,i,m,n,r,h,t,u=>by
  obtain⟨rfl,z⟩:=iy h;subst z;show fq X _ _ _ _ (nA fsT (g+1) X.d ow ce s) _;rw[D_];exact(fq.pure (Q:=λj k l=>k=w'.ss.length/\Kp X w'.u1 w'.u2 o l/\([]:List Int).map (pl l)=j/\∀p∈([]:List Int),∃q:Nat,p=(q:Int)/\¬Fr X w'.u1 w'.u2 q) ⟨rfl,Kp.refl _ _ _ _,rfl,λp A=>by simp at A⟩).mono (aQ _) λ_ _ _ h=>h
 |x::xs,g+1,[],o,s,w,w',f,i,m,n,r,h,t,u=>by simp at n
 |x::xs,g+1,B::c,o,s,w,w',f,i,m,n,r,h,t,u=>by
  obtain⟨p,w1,h1,h⟩:=d_ h;obtain⟨rs,C,h2,h⟩:=d_ h;obtain⟨rfl,z⟩:=iy h;subst z;obtain⟨⟨D,E,-⟩,G,H⟩:=QO r;obtain⟨I,J⟩:=b.V _ _ _ _ h1;obtain⟨K,L,M⟩:=zC b _ _ _ _ h2;have N:=J.le;have O:=I.ex.sl;have P:=K.ex.sl;show fq X _ _ _ _ (nA fsT (g+1) X.d ow (cc x (chain xs)) s) _;rw[Nq];refine(fq.bind (m x (by simp) g (by omega) ns ow o s w w1 p D E h1 (K.ex.trans t) u) (e:=2*(w'.ss.length-w1.ss.length)) (R:=λj k l=>k=w'.ss.length/\Kp X w.u1 w.u2 o l/\((p:Int)::rs).map (pl l)=j/\∀S∈((p:Int)::rs),∃q:Nat,S=(q:Int)/\¬Fr X w'.u1 w'.u2 q) ?_).mono (by omega) λ_ _ _ h=>h;rintro v T U W ⟨rfl,T,Y,Z⟩-;have A:=u.kp a T;rw[<-I.nm]at A;have f:=Ea a b xs g c U W w1 w' rs G (λy i g' B=>m y (by simp[i]) g' (by omega)) (by simpa using n) H h2 t A;refine(fq.bind f (e:=0) (R:=λj k l=>k=w'.ss.length/\Kp X w.u1 w.u2 o l/\((p:Int)::rs).map (pl l)=j/\∀S∈((p:Int)::rs),∃q:Nat,S=(q:Int)/\¬Fr X w'.u1 w'.u2 q) ?_).mono (by omega) λ_ _ _ h=>h;rintro j z C r ⟨rfl,z,J,O⟩-;refine fq.pure ⟨rfl,T.trans (z.mono N.1 N.2),?_,λS D=>?_⟩
  ·rw[bO,J,z.pl Z,Y]
  ·rcases aY.1 D with rfl|D
   ·exact⟨p,rfl,λe=>Z (e.mono L M)⟩
   ·exact O S D
theorem Eb{g k:Nat}{o:List Vl}{s:TS}{st:Ms}{q:Nat}{T:eR}{nm:By}{h:List Vl}(u:X.F.steps[k]?=some {st with dst:=(q:Int)})(hc:st.code=7)(M:st.name=nm)(B:fsT nm=some T)(m:Jc fsT X.fs g)(y:st.args.map (pl o)=h)(E:h.length=T.ps.length):
  fq X 2 k o s ((if 40<=X.d then ax 5 else au (iq fsT g (X.d+1) ((T.ps.map (·.1)).zip h).reverse T.body) λr=>ar (r.1.getD 0,(none:Option Nat))) s) λv J A=>J=k+1/\A=o.set q v:=by
 obtain⟨G,z,H⟩:=m nm T B;have b:=λf=>f_7 (fs:=X.fs) (d:=X.d) (o:=o) u hc (G:=G) (by rw[<-M]at z;exact z) s f;have x:theirs G o st.args=h++List.replicate (G.types.length-h.length) (0,none):=by
  unfold theirs;rw[y];congr 2;rw[<-y,cX]
 dsimp only at b;rw[x,aR]at b;by_cases c:40<=X.d
 ·rw[if_pos c];refine⟨λa D e=>(by cases e),λw out e h1 h2=>?_⟩;have p:=e;injection p with p;injection p with j i;subst j i;exact⟨1,by omega,λf=>by rw[b f,if_pos c]⟩
 ·rw[if_neg c];obtain⟨C,L⟩:=H (X.d+1) h s E;refine⟨λa D e=>?_,λw out e h1 h2=>?_⟩
  ·obtain⟨r,K,j,i⟩:=mN e;injection i with i;injection i with i l;subst i l;obtain⟨n,I,t⟩:=C r K j;refine⟨n+1,k+1,_,by omega,λf=>?_,rfl,rfl⟩;have:=b (f+n);rw[if_neg c,t f]at this;exact this
  ·have j:iq fsT g (X.d+1) ((T.ps.map (·.1)).zip h).reverse T.body s= .error (w,out):=by
    unfold au at e;split at e
    ·rename_i l;rw[l];injection e with e;rw[e]
    ·cases e
   obtain⟨n,I,t⟩:=L w out j h1 h2;refine⟨n+1,by omega,λf=>?_⟩;have:=b (f+n);rw[if_neg c,t f]at this;exact this
theorem S9(b:jl X)(c:iR F)(d:∀nm f,lk nm=some f->∃i,fsT nm=some i/\i.ps=f){g:Nat}{a n:Int}{nm j:By}{l r:Tr}{xs:List Tr}(k:Jc fsT X.fs g)(m:∀x∈xs,∀g'≤g,SV fsT lk X F.V g' x):SL fsT lk X (ki F) (g+1) (nd 5 a n nm j l r (chain xs)):=by
 intro ns ow o s w w' st q t h u y;rw[Me,eZ]at h;obtain⟨z,w1,A,h⟩:=d_ h;obtain⟨rfl,B⟩:=iy h;subst B;refine⟨λC D=>?_,λhc=>absurd hc (by show ¬(7:Int)=2;decide)⟩;obtain⟨f,h1,h2,⟨E,G⟩,-⟩:=Cz t;obtain⟨i,H,I⟩:=d _ _ h1;rw[oQ]at h2;rw[Eh _ _ _ _ _ _ _ _ _ _ _ H];refine(fq.bind (Ea b c xs g f o s w w' z E m h2 G A u y) (e:=2) (R:=λv J K=>J=w'.ss.length+1/\∃L,Kp X w.u1 w.u2 o L/\K=L.set C v) ?_).mono (by omega) λ_ _ _ h=>h;rintro M N L O ⟨rfl,N,P,Q⟩ S;have T:∀(xs:List Tr)(w w':Wr)(z:List Int),lK F.V xs w=some (z,w')->z.length=xs.length:=λxs=>by
  induction xs with
  |nil=>intro w w' z h;obtain⟨rfl,-⟩:=iy h;rfl
  |cons x xs U=>
   intro w w' z h;obtain⟨p,w1,h1,h⟩:=d_ h;obtain⟨rs,W,h2,h⟩:=d_ h;obtain⟨rfl,-⟩:=iy h;simp[U _ _ _ h2]
 refine(Eb D rfl rfl H k P (by rw[<-P,cX,T _ _ _ _ A,h2,I])).mono (aD _) λv J K ⟨Y,B⟩=>⟨Y,L,N,B⟩
theorem nL(F:Lf)(c a n:Int)(nm b:By)(l r xs:Tr)(e:Nat)(w:Wr):tq F (nd c a n nm b l r xs) e w=(lb (if c=4/\b=[33] then F.W l e
   else if c=3/\b=[38,38] then lb (F.U l e) λ_=>F.U r e
   else if c=3/\b=[124,124] then lb gY λd=>lb (F.W l d) λ_=>lb (F.U r e) λ_=>jt d
   else lb (F.V (nd c a n nm b l r xs)) λp=>gX {fd with code:=5,a:=p,label:=e}) λ_=>lB w.u1 w.u2) w:=rfl
theorem nM(F:Lf)(c a n:Int)(nm op:By)(l r xs:Tr)(e:Nat)(w:Wr):tu F (nd c a n nm op l r xs) e w=(lb (if c=4/\op=[33] then F.U l e
   else if c=3/\op=[124,124] then lb (F.W l e) λ_=>F.W r e
   else if c=3/\op=[38,38] then lb gY λd=>lb (F.U l d) λ_=>lb (F.W r e) λ_=>jt d
   else lb (F.V (nd c a n nm op l r xs)) λp=>lb (lB w.u1 w.u2) λ_=>lb h_ λq=>lb kO λz=>lb (gX {fd with code:=3,op:=[61,61],dst:=q,a:=p,b:=z}) λ_=>gX {fd with code:=5,a:=q,label:=e}) λ_=>lB w.u1 w.u2) w:=rfl
def uu(t:Tr):Prop:=(∃a n nm l r xs e b,t=nd 4 a n nm [33] l r xs/\RE e b l)\/(∃a n nm l r xs e b d f,t=nd 3 a n nm [38,38] l r xs/\RE e b l/\RE d f r)\/(∃a n nm l r xs e b d f,t=nd 3 a n nm [124,124] l r xs/\RE e b l/\RE d f r)\/∃c a n nm g l r xs,t=nd c a n nm g l r xs/\¬(c=4/\g=[33])/\¬(c=3/\g=[38,38])/\¬(c=3/\g=[124,124])
theorem uu.no{t:Tr}(a n:Int)(nm:By)(l r xs:Tr)(e b:Nat)(h:t=nd 4 a n nm [33] l r xs)(h1:RE e b l):uu t:= .inl ⟨a,n,nm,l,r,xs,e,b,h,h1⟩
theorem uu.an{t:Tr}(a n:Int)(nm:By)(l r xs:Tr)(e b c d:Nat)(h:t=nd 3 a n nm [38,38] l r xs)(h1:RE e b l)(h2:RE c d r):uu t:= .inr (.inl ⟨a,n,nm,l,r,xs,e,b,c,d,h,h1,h2⟩)
theorem uu.or{t:Tr}(a n:Int)(nm:By)(l r xs:Tr)(e b c d:Nat)(h:t=nd 3 a n nm [124,124] l r xs)(h1:RE e b l)(h2:RE c d r):uu t:= .inr (.inr (.inl ⟨a,n,nm,l,r,xs,e,b,c,d,h,h1,h2⟩))
theorem uu.el{t:Tr}(c a n:Int)(nm b:By)(l r xs:Tr)(h:t=nd c a n nm b l r xs)(h1:¬(c=4/\b=[33]))(h2:¬(c=3/\b=[38,38]))(d:¬(c=3/\b=[124,124])):uu t:= .inr (.inr (.inr ⟨c,a,n,nm,b,l,r,xs,h,h1,h2,d⟩))
theorem uu.cs{t:Tr}{C:uu t->Prop}(h:uu t)(no:∀(a n:Int)(nm:By)(l r xs:Tr)(e b:Nat),t=nd 4 a n nm [33] l r xs->RE e b l->C h)(an:∀(a n:Int)(nm:By)(l r xs:Tr)(e b d f:Nat),t=nd 3 a n nm [38,38] l r xs->RE e b l->RE d f r->C h)(or:∀(a n:Int)(nm:By)(l r xs:Tr)(e b d f:Nat),t=nd 3 a n nm [124,124] l r xs->RE e b l->RE d f r->C h)(el:∀(c a n:Int)(nm g:By)(l r xs:Tr),t=nd c a n nm g l r xs->¬(c=4/\g=[33])->¬(c=3/\g=[38,38])->¬(c=3/\g=[124,124])->C h):C h:=by
 rcases h with⟨a,n,nm,l,r,xs,e,b,x,y⟩|⟨a,n,nm,l,r,xs,e,b,d,f,x,y,z⟩|⟨a,n,nm,l,r,xs,e,b,d,f,x,y,z⟩|⟨c,a,n,nm,g,l,r,xs,x,y,z,u⟩
 ·exact no _ _ _ _ _ _ _ _ x y
 ·exact an _ _ _ _ _ _ _ _ _ _ x y z
 ·exact or _ _ _ _ _ _ _ _ _ _ x y z
 ·exact el _ _ _ _ _ _ _ _ x y z u
theorem vn{e b:Nat}{t:Tr}(c:RE e b t):uu t:=by
 cases e with
 |zero=>exact c.elim
 |succ e=>
  rw[RE]at c;rcases c.2 with⟨a,n,-,-,rfl⟩|⟨a,nm,-,rfl⟩|⟨a,d,l,r,-,f,g,rfl⟩|⟨a,d,l,h,f,rfl⟩|⟨a,nm,xs,-,-,rfl⟩|⟨a,l,-,rfl⟩|⟨a,l,-,rfl⟩|⟨a,l,r,-,-,rfl⟩|⟨a,rfl⟩
  ·exact .el 1 _ _ _ _ _ _ _ rfl (by simp) (by simp) (by simp)
  ·exact .el 2 _ _ _ _ _ _ _ rfl (by simp) (by simp) (by simp)
  ·by_cases h1:d=[38,38]
   ·subst h1;exact .an _ _ _ _ _ _ _ _ _ _ rfl f g
   by_cases h2:d=[124,124]
   ·subst h2;exact .or _ _ _ _ _ _ _ _ _ _ rfl f g
   exact .el 3 _ _ _ _ _ _ _ rfl (by simp) (by simp[h1]) (by simp[h2])
  ·rcases h with rfl|rfl
   ·exact .el 4 _ _ _ _ _ _ _ rfl (by simp) (by simp) (by simp)
   ·exact .no _ _ _ _ _ _ _ _ rfl f
  ·exact .el 5 _ _ _ _ _ _ _ rfl (by simp) (by simp) (by simp)
  ·exact .el 6 _ _ _ _ _ _ _ rfl (by simp) (by simp) (by simp)
  ·exact .el 7 _ _ _ _ _ _ _ rfl (by simp) (by simp) (by simp)
  ·exact .el 8 _ _ _ _ _ _ _ rfl (by simp) (by simp) (by simp)
  ·exact .el 9 _ _ _ _ _ _ _ rfl (by simp) (by simp) (by simp)
theorem Nr(b:jl X)(d:iR F){g:Nat}{t:Tr}(f:uu t)(i:SV fsT lk X F.V g t)(k:∀g'<g,∀x e q,RE e q x->SU fsT lk X F.U g' x)(u:∀g'<g,∀x e q,RE e q x->SW fsT lk X F.W g' x):SU fsT lk X (tq F) g t:=by
 intro ns ow o s w w' z e j A B h C D E G H;cases g with
 |zero=>exact fq.bad (FA _ _ _ _) (.inr (by decide))
 |succ g=>
  cases f using uu.cs with
  |no a n nm l r xs I J K L=>
   subst K;rw[nL,if_pos ⟨rfl,rfl⟩]at h;obtain⟨_,w1,h1,h⟩:=d_ h;obtain⟨M,N⟩:=iE h;obtain⟨⟨O,P,-⟩,-⟩:=uj B;have S:w'.ss=w1.ss:=by rw[N]
   rw[S,Cy];refine(fq.bind (u g (by omega) l I J L ns ow o s w w1 O e j A P h1 (M.ex.trans C) D E G H) (e:=0) (R:=λv T Y=>Kp X w.u1 w.u2 o Y/\T=if v.1=0 then j+1 else w1.ss.length) ?_).mono (by omega) λ_ _ _ h=>h;rintro x Z o1 q ⟨Z,rfl⟩-;refine fq.pure ⟨Z,?_⟩;by_cases f:x.1=0<;>simp[f,gJ]
  |an a n nm l r xs I J A0 A1 K L A2=>
   subst K;rw[nL,if_neg (by simp),if_pos ⟨rfl,rfl⟩]at h;obtain⟨_,w1,h1,h⟩:=d_ h;obtain⟨_,A3,h2,A4⟩:=d_ h1;obtain⟨M,N⟩:=iE h;obtain⟨⟨O,P,-⟩,⟨A5,A6,-⟩,-⟩:=oT B;have S:w'.ss=w1.ss:=by rw[N]
   obtain⟨A7,A8,A9⟩:=d.U _ _ _ _ h2;obtain⟨B0,B1,B2⟩:=d.U _ _ _ _ A4;have B3:=A7.ex.sl;have B4:=B0.ex.sl;rw[S,zj];refine(fq.bind (k g (by omega) l I J L ns ow o s w A3 O e j A P h2 (B0.ex.trans (M.ex.trans C)) D E G H) (e:=2*(w1.ss.length-A3.ss.length)) (R:=λv T Y=>Kp X w.u1 w.u2 o Y/\T=if v.1=0 then j+1 else w1.ss.length) ?_).mono (by omega) λ_ _ _ h=>h;rintro x Z o1 q ⟨Z,rfl⟩-;by_cases f:x.1=0
   ·rw[if_pos f,if_pos f];exact(fq.pure (Q:=λ(v:Vl) T Y=>Kp X w.u1 w.u2 o Y/\T=if v.1=0 then j+1 else w1.ss.length) ⟨Z,by simp⟩).mono (aQ _) λ_ _ _ h=>h
   ·rw[if_neg f,if_neg f];have B5:=D.kp b Z;rw[<-A7.nm]at B5;refine(fq.bind (k g (by omega) r A0 A1 A2 ns ow o1 q A3 w1 A5 e j A A6 A4 (M.ex.trans C) B5 E G H) (e:=0) (R:=λv T Y=>Kp X w.u1 w.u2 o Y/\T=if v.1=0 then j+1 else w1.ss.length) ?_).mono (by omega) λ_ _ _ h=>h;rintro y B6 B7 B8 ⟨B6,rfl⟩-;refine fq.pure ⟨Z.trans (B6.mono (by omega) (by omega)),?_⟩;by_cases B9:y.1=0<;>simp[B9,gJ]
  |or a n nm l r xs I J A0 A1 K L A2=>
   subst K;rw[nL,if_neg (by simp),if_neg (by simp),if_pos ⟨rfl,rfl⟩]at h;obtain⟨_,w1,h1,h⟩:=d_ h;obtain⟨C0,A3,h2,h1⟩:=d_ h1;obtain⟨_,C1,A4,h1⟩:=d_ h1;obtain⟨_,C2,C3,C4⟩:=d_ h1;obtain⟨M,N⟩:=iE h;obtain⟨⟨O,P,-⟩,⟨A5,A6,-⟩,-⟩:=oT B;have S:w'.ss=w1.ss:=by rw[N]
   obtain⟨A7,A8,A9,-,-,C5⟩:=fY h2;obtain⟨B0,B1,B2⟩:=d.W _ _ _ _ A4;obtain⟨C6,C7,C8⟩:=d.U _ _ _ _ C3;unfold jt at C4;obtain⟨C9,D0,D1,D2⟩:=fM C4 (by simp);have B4:=B0.ex.sl;have D3:=C6.ex.sl;have D4:=M.ex.trans C;have D5:=D0.ex.trans D4;have D6:=C6.ex.trans D5;have D7:w1.ss=C2.ss++[{fd with code:=6,label:=(C0:Int)}]:=by rw[C9]
   have D8:w1.ss.length=C2.ss.length+1:=by rw[D7];simp
   have D9:=jq b D4 D7;have E0:A3.ss.length=w.ss.length:=by rw[C5]
   have E1:=D;rw[<-A7.nm]at E1;rw[S,Eg];have E2:=u g (by omega) l I J L ns ow o s A3 C1 O C0 C2.ss.length _ P A4 D6 E1 D9 rfl rfl;rw[E0]at E2;refine(fq.bind E2 (e:=2*(w1.ss.length-C1.ss.length)) (R:=λv T Y=>Kp X w.u1 w.u2 o Y/\T=if v.1=0 then j+1 else w1.ss.length) ?_).mono (by omega) λ_ _ _ h=>h;rintro x Z o1 q ⟨Z,rfl⟩-;have u:Kp X w.u1 w.u2 o o1:=Z.mono (by omega) (by omega);by_cases f:x.1=0
   ·rw[if_pos f,if_neg (by simp[f])];have I:=D.kp b u;rw[<-A7.nm,<-B0.nm]at I;refine(fq.bind (k g (by omega) r A0 A1 A2 ns ow o1 q C1 C2 A5 e j A A6 C3 D5 I E G H) (e:=1) (R:=λv T Y=>Kp X w.u1 w.u2 o Y/\T=if v.1=0 then j+1 else w1.ss.length) ?_).mono (by omega) λ_ _ _ h=>h;rintro y B6 B7 B8 ⟨B6,rfl⟩-;have J:=u.trans (B6.mono (by omega) (by omega));by_cases B9:y.1=0
    ·rw[if_pos B9];exact(fq.pure (Q:=λ(v:Vl) T Y=>Kp X w.u1 w.u2 o Y/\T=if v.1=0 then j+1 else w1.ss.length) ⟨J,by simp[B9,gJ]⟩).mono (aQ _) λ_ _ _ h=>h
    ·rw[if_neg B9];exact(fq.ahead (m:=1) (Dn D9 rfl) (fq.pure (Q:=λ(v:Vl) T Y=>Kp X w.u1 w.u2 o Y/\T=if v.1=0 then j+1 else w1.ss.length) ⟨J,by simp[B9,gJ,D8]⟩)).mono (aD _) λ_ _ _ h=>h
   ·rw[if_neg f,if_pos f];exact(fq.pure (Q:=λ(v:Vl) T Y=>Kp X w.u1 w.u2 o Y/\T=if v.1=0 then j+1 else w1.ss.length) ⟨u,by simp[D8]⟩).mono (aQ _) λ_ _ _ h=>h
  |el c a n nm L l r xs K D8 E0 O=>
   subst K;rw[nL,if_neg D8,if_neg E0,if_neg O]at h;obtain⟨_,w1,h1,h⟩:=d_ h;obtain⟨p,A3,h2,A4⟩:=d_ h1;obtain⟨M,N⟩:=iE h;have S:w'.ss=w1.ss:=by rw[N]
   obtain⟨A7,A8⟩:=d.V _ _ _ _ h2;obtain⟨P,B0,B1,B2⟩:=fM A4 (by simp);have B3:=A7.ex.sl;have D4:=M.ex.trans C;have D7:w1.ss=A3.ss++[{fd with code:=5,a:=(p:Int),label:=(e:Int)}]:=by rw[P]
   have k:w1.ss.length=A3.ss.length+1:=by rw[D7];simp
   have A:=jq b D4 D7;rw[S];refine((i ns ow o s w A3 p z B h2 (B0.ex.trans D4) D).behind (m:=1) (Q':=λ(v:Vl) T Y=>Kp X w.u1 w.u2 o Y/\T=if v.1=0 then j+1 else w1.ss.length) ?_).mono (by omega) λ_ _ _ h=>h;rintro v Z o1 q ⟨rfl,Z,I,f⟩;refine⟨1,_,_,aD _,RN b A rfl E G H,Z,?_⟩;dsimp only;rw[I,k]
theorem Ns(i:jl X)(k:iR F){g:Nat}{t:Tr}(u:uu t)(A:SV fsT lk X F.V g t)(B:∀g'<g,∀x e C,RE e C x->SU fsT lk X F.U g' x)(D:∀g'<g,∀x e C,RE e C x->SW fsT lk X F.W g' x):SW fsT lk X (tu F) g t:=by
 intro ns ow o s w w' E e j G H h I J K L M;cases g with
 |zero=>exact fq.bad (FA _ _ _ _) (.inr (by decide))
 |succ g=>
  cases u using uu.cs with
  |no a n nm l r xs N O P S=>
   subst P;rw[nM,if_pos ⟨rfl,rfl⟩]at h;obtain⟨_,w1,h1,h⟩:=d_ h;obtain⟨T,Y⟩:=iE h;obtain⟨⟨Z,C,-⟩,-⟩:=uj H;have u:w'.ss=w1.ss:=by rw[Y]
   rw[u,Cy];refine(fq.bind (B g (by omega) l N O S ns ow o s w w1 Z e j G C h1 (T.ex.trans I) J K L M) (e:=0) (R:=λv A0 A1=>Kp X w.u1 w.u2 o A1/\A0=if v.1=0 then w1.ss.length else j+1) ?_).mono (by omega) λ_ _ _ h=>h;rintro x A2 o1 A3 ⟨A2,rfl⟩-;refine fq.pure ⟨A2,?_⟩;by_cases A4:x.1=0<;>simp[A4,gJ]
  |or a n nm l r xs N O A5 A6 P S A7=>
   subst P;rw[nM,if_neg (by simp),if_pos ⟨rfl,rfl⟩]at h;obtain⟨_,w1,h1,h⟩:=d_ h;obtain⟨_,A8,h2,A9⟩:=d_ h1;obtain⟨T,Y⟩:=iE h;obtain⟨⟨Z,C,-⟩,⟨B0,B1,-⟩,-⟩:=oT H;have u:w'.ss=w1.ss:=by rw[Y]
   obtain⟨B2,B3,B4⟩:=k.W _ _ _ _ h2;obtain⟨B5,B6,B7⟩:=k.W _ _ _ _ A9;have B8:=B2.ex.sl;have B9:=B5.ex.sl;rw[u,Eg];refine(fq.bind (D g (by omega) l N O S ns ow o s w A8 Z e j G C h2 (B5.ex.trans (T.ex.trans I)) J K L M) (e:=2*(w1.ss.length-A8.ss.length)) (R:=λv A0 A1=>Kp X w.u1 w.u2 o A1/\A0=if v.1=0 then w1.ss.length else j+1) ?_).mono (by omega) λ_ _ _ h=>h;rintro x A2 o1 A3 ⟨A2,rfl⟩-;by_cases A4:x.1=0
   ·rw[if_pos A4,if_neg (by simp[A4])];have C0:=J.kp i A2;rw[<-B2.nm]at C0;refine(fq.bind (D g (by omega) r A5 A6 A7 ns ow o1 A3 A8 w1 B0 e j G B1 A9 (T.ex.trans I) C0 K L M) (e:=0) (R:=λv A0 A1=>Kp X w.u1 w.u2 o A1/\A0=if v.1=0 then w1.ss.length else j+1) ?_).mono (by omega) λ_ _ _ h=>h;rintro y C1 C2 C3 ⟨C1,rfl⟩-;refine fq.pure ⟨A2.trans (C1.mono (by omega) (by omega)),?_⟩;by_cases C4:y.1=0<;>simp[C4,gJ]
   ·rw[if_neg A4,if_pos A4];exact(fq.pure (Q:=λ(v:Vl) A0 A1=>Kp X w.u1 w.u2 o A1/\A0=if v.1=0 then w1.ss.length else j+1) ⟨A2,by simp⟩).mono (aQ _) λ_ _ _ h=>h
  |an a n nm l r xs N O A5 A6 P S A7=>
   subst P;rw[nM,if_neg (by simp),if_neg (by simp),if_pos ⟨rfl,rfl⟩]at h;obtain⟨_,w1,h1,h⟩:=d_ h;obtain⟨C5,A8,h2,h1⟩:=d_ h1;obtain⟨_,C6,A9,h1⟩:=d_ h1;obtain⟨_,C7,C8,C9⟩:=d_ h1;obtain⟨T,Y⟩:=iE h;obtain⟨⟨Z,C,-⟩,⟨B0,B1,-⟩,-⟩:=oT H;have u:w'.ss=w1.ss:=by rw[Y]
   obtain⟨B2,B3,B4,-,-,D0⟩:=fY h2;obtain⟨B5,B6,B7⟩:=k.U _ _ _ _ A9;obtain⟨D1,D2,D3⟩:=k.W _ _ _ _ C8;unfold jt at C9;obtain⟨D4,D5,D6,D7⟩:=fM C9 (by simp);have B9:=B5.ex.sl;have D8:=D1.ex.sl;have D9:=T.ex.trans I;have E0:=D5.ex.trans D9;have E1:=D1.ex.trans E0;have E2:w1.ss=C7.ss++[{fd with code:=6,label:=(C5:Int)}]:=by rw[D4]
   have E3:w1.ss.length=C7.ss.length+1:=by rw[E2];simp
   have E4:=jq i D9 E2;have E5:A8.ss.length=w.ss.length:=by rw[D0]
   have E6:=J;rw[<-B2.nm]at E6;rw[u,zj];have E7:=B g (by omega) l N O S ns ow o s A8 C6 Z C5 C7.ss.length _ C A9 E1 E6 E4 rfl rfl;rw[E5]at E7;refine(fq.bind E7 (e:=2*(w1.ss.length-C6.ss.length)) (R:=λv A0 A1=>Kp X w.u1 w.u2 o A1/\A0=if v.1=0 then w1.ss.length else j+1) ?_).mono (by omega) λ_ _ _ h=>h;rintro x A2 o1 A3 ⟨A2,rfl⟩-;have B:Kp X w.u1 w.u2 o o1:=A2.mono (by omega) (by omega);by_cases A4:x.1=0
   ·rw[if_pos A4,if_pos A4];exact(fq.pure (Q:=λ(v:Vl) A0 A1=>Kp X w.u1 w.u2 o A1/\A0=if v.1=0 then w1.ss.length else j+1) ⟨B,by simp[E3]⟩).mono (aQ _) λ_ _ _ h=>h
   ·rw[if_neg A4,if_neg A4];have S:=J.kp i B;rw[<-B2.nm,<-B5.nm]at S;refine(fq.bind (D g (by omega) r A5 A6 A7 ns ow o1 A3 C6 C7 B0 e j G B1 C8 E0 S K L M) (e:=1) (R:=λv A0 A1=>Kp X w.u1 w.u2 o A1/\A0=if v.1=0 then w1.ss.length else j+1) ?_).mono (by omega) λ_ _ _ h=>h;rintro y C1 C2 C3 ⟨C1,rfl⟩-;have Z:=B.trans (C1.mono (by omega) (by omega));by_cases C4:y.1=0
    ·rw[if_pos C4];exact(fq.ahead (m:=1) (Dn E4 rfl) (fq.pure (Q:=λ(v:Vl) A0 A1=>Kp X w.u1 w.u2 o A1/\A0=if v.1=0 then w1.ss.length else j+1) ⟨Z,by simp[C4,gJ,E3]⟩)).mono (aD _) λ_ _ _ h=>h
    ·rw[if_neg C4];exact(fq.pure (Q:=λ(v:Vl) A0 A1=>Kp X w.u1 w.u2 o A1/\A0=if v.1=0 then w1.ss.length else j+1) ⟨Z,by simp[C4,gJ]⟩).mono (aQ _) λ_ _ _ h=>h
  |el c a n nm op l r xs P E3 E5 C=>
   subst P;rw[nM,if_neg E3,if_neg C,if_neg E5]at h;obtain⟨_,w1,h1,h⟩:=d_ h;obtain⟨p,A8,h2,h1⟩:=d_ h1;obtain⟨_,C6,A9,h1⟩:=d_ h1;obtain⟨q,C7,C8,h1⟩:=d_ h1;obtain⟨z,D,C9,h1⟩:=d_ h1;obtain⟨_,G,S,B⟩:=d_ h1;obtain⟨T,Y⟩:=iE h;have u:w'.ss=w1.ss:=by rw[Y]
   obtain⟨B2,B3⟩:=k.V _ _ _ _ h2;obtain⟨B5,B6⟩:=iE A9;obtain⟨D1,D2,D3,Z,P⟩:=mK C8;obtain⟨O,A6,D7,C,k⟩:=nR C9;obtain⟨Y,N,A5,E8⟩:=fM S (by simp);obtain⟨S,E9,F0,F1⟩:=fM B (by simp);have B8:=B2.ex.sl;have D9:=T.ex.trans I;have I:=E9.ex.trans D9;have T:=N.ex.trans I;have E0:=O.ex.trans T;have B:=(B5.ex.trans D1.ex).trans E0;have N:D.ss=A8.ss:=by rw[k,P,B6]
   have O:G.ss=A8.ss++[{fd with code:=3,op:=[61,61],dst:=(q:Int),a:=(p:Int),b:=(z:Int)}]:=by rw[Y,N]
   have E2:w1.ss=G.ss++[{fd with code:=5,a:=(q:Int),label:=(e:Int)}]:=by rw[S]
   have D:G.ss.length=A8.ss.length+1:=by rw[O];simp
   have P:w1.ss.length=G.ss.length+1:=by rw[E2];simp
   have k:=jq i I O;have A3:=jq i D9 E2;have Y:C6.u1=w.u1:=by rw[B6]
   have S:X.wf.sp1[w.u1]?=some q:=eN E0.p1 (by rw[<-Y];exact Z);have N:Fr X w.u1 w.u2 q:= .inl ⟨w.u1,aD _,S⟩;have G:=Gt i N;rw[u];refine((A ns ow o s w A8 p E H h2 B J).behind (m:=2) (Q':=λ(v:Vl) A0 A1=>Kp X w.u1 w.u2 o A1/\A0=if v.1=0 then w1.ss.length else j+1) ?_).mono (by omega) λ_ _ _ h=>h;rintro v A2 o1 s1' ⟨rfl,A2,I,-⟩;have O:=(J.kp i A2).zr z (T.no z C);have Z:To X 1 A8.ss.length o1 s1' (A8.ss.length+1) (o1.set q (gJ (decide (v.1=0)),none)) s1':=λf=>by
    have:=SK (fs:=X.fs) (d:=X.d) (o:=o1) k (show AD 3 by decide) (x:=ar (gJ (decide (v.1=0)),none)) (λg'=>?_) s1' f
    ·dsimp only at this;rw[aR]at this;exact this
    ·have Y:eI X.fs g' X.d {fd with code:=3,op:=[61,61],dst:=(q:Int),a:=(p:Int),b:=(z:Int)} o1=gb (gU [61,61] (pl o1 (p:Int)).1 (pl o1 (z:Int)).1) λn=>gp (n,none):=by unfold eI;simp
     rw[Y,I,O];exact λs f=>by simp[gU,gj,nh,gb,gp,ar,gJ]
   have S:=RN (o:=o1.set q (gJ (decide (v.1=0)),none)) (s:=s1') i A3 rfl K L M;dsimp only at S;rw[tD (by rw[A2.len,J.len];exact G),D]at S;refine⟨2,_,_,aD _,Z.trans S,A2.trans (Kp.set N _ _),?_⟩;by_cases A:v.1=0<;>simp[A,gJ,P,D]
theorem LV(b:jl X)(c:∀nm d,lk nm=some d->∃f,fsT nm=some f/\f.ps=d)(i:Nat)(j:∀g<i,Jc fsT X.fs g):∀(gl g:Nat)(t:Tr)(e k:Nat),g<=i->RE e k t->
  SV fsT lk X (mm gl).V g t/\SL fsT lk X (mm gl).L g t/\SU fsT lk X (mm gl).U g t/\SW fsT lk X (mm gl).W g t
 |0,g,t,e,k,m,p=>⟨λ_ _ _ _ _ _ _ _ _ h=>(by cases h),λ_ _ _ _ _ _ _ _ _ h=>(by cases h),λ_ _ _ _ _ _ _ _ _ _ _ h=>(by cases h),λ_ _ _ _ _ _ _ _ _ _ _ h=>(by cases h)⟩
 |gl+1,g,t,e,k,m,p=>by
  have u:=LV b c i j gl;have v:=ru gl;have h1:=u g t e k m p;refine⟨OG b v p h1.2.1,?_,Nr b v (vn p) h1.1 (λg' y x z A B=>(u g' x z A (by omega) B).2.2.1) (λg' y x z A B=>(u g' x z A (by omega) B).2.2.2),Ns b v (vn p) h1.1 (λg' y x z A B=>(u g' x z A (by omega) B).2.2.1) (λg' y x z A B=>(u g' x z A (by omega) B).2.2.2)⟩
  suffices hsl:SL fsT lk X (ki (mm gl)) g t from λns ow o s w w' st C D h E F=>hsl ns ow o s w w' st C D (Mr h) E F
  cases g with
  |zero=>
   intro ns ow o s w w' st C D h E F;exact⟨λq G=>fq.bad (FA _ _ _ _) (.inr (by decide)),λhc=>fq.bad (FA _ _ _ _) (.inr (by decide))⟩
  |succ g=>
   cases e with
   |zero=>exact p.elim
   |succ e=>
    have H:=p;rw[RE]at p;rcases p.2 with⟨a,n,-,-,rfl⟩|⟨a,nm,-,rfl⟩|⟨a,I,l,r,J,K,M,rfl⟩|⟨a,I,l,J,K,rfl⟩|⟨a,nm,xs,-,B,rfl⟩|⟨a,l,K,rfl⟩|⟨a,l,K,rfl⟩|⟨a,l,r,K,M,rfl⟩|⟨a,rfl⟩
    ·exact Tu b
    ·exact Tv b
    ·by_cases N:I=[38,38]\/I=[124,124]
     ·intro ns ow o s w w' st C D h E F;rw[AG]at h;unfold tj at h;rw[if_pos N]at h;obtain⟨hc,h2⟩:=FB b v N h1.2.2.1 D h E F (s:=s);exact⟨λq G=>BA hc h2 q G,λ_=>h2⟩
     ·exact Ts b v J (λe=>N (.inl e)) (λe=>N (.inr e)) (u g l _ _ (by omega) K).1 (u g r _ _ (by omega) M).1
    ·exact Tt b v J (u g l _ _ (by omega) K).1
    ·exact S9 b v c (j g (by omega)) (λx O g' y=>(u g' x _ _ (by omega) (B x O)).1)
    ·exact Tw b v (u g l _ _ (by omega) K).1
    ·exact Tx b v (u g l _ _ (by omega) K).1
    ·exact Ty b v (u g l _ _ (by omega) K).1 (u g r _ _ (by omega) M).1
    ·exact Tz b
end
structure nD (w:Wr):Prop where
 nd:(w.nm.map (·.2)).Nodup
 pv:∀x∈w.nm,Pv w x.2
theorem pL:∀{l:List (By×Nat)} {x:By} {p:Nat},l.lookup x=some p->(x,p)∈l
 |[],x,p,h=>by simp at h
 |(y,q)::l,x,p,h=>by
  rw[bU]at h;split at h
  ·rename_i e;injection h with h;have:x=y:=by simpa using e
   subst this h;simp
  ·exact b9 _ (pL h)
theorem nD.ex{w w':Wr}(h:nD w)(a:Ex w w')(b:w'.nm=w.nm):nD w':=⟨by rw[b];exact h.nd,λx c=>a.pv (h.pv x (by rw[<-b];exact c))⟩
def qT(ns:Nm)(w w':Wr):Prop:=∀x k,gP ns x=some k->w'.nm.lookup x=w.nm.lookup x
theorem qT.refl(ns:Nm)(w:Wr):qT ns w w:=λ_ _ _=>rfl
theorem qT.of{ns:Nm}{w w':Wr}(h:w'.nm=w.nm):qT ns w w':=λ_ _ _=>by rw[h]
theorem qT.trans{ns:Nm}{a b c:Wr}(h:qT ns a b)(g:qT ns b c):qT ns a c:=λx k e=>(g x k e).trans (h x k e)
theorem vC{ns l:Nm}{x:By}{k:Int}(h:gP ns x=some k):gP (ns++l) x=some k:=by
 unfold gP at h⊢;rw[List.find?_append];cases a:ns.find? (λy=>y.1==x) with
 |none=>rw[a]at h;cases h
 |some y=>rw[a]at h;exact h
theorem qT.less{ns l:Nm}{w w':Wr}(h:qT (ns++l) w w'):qT ns w w':=λx k e=>h x k (vC e)
theorem oX{s s':Nm×Nat}{v:By×Int}{a:Int}(h:kW s v a= .ok s'):gP s.1 v.1=none/\s'.1=s.1++[v]:=by
 unfold kW at h;split at h
 ·cases h
 ·rename_i h1;split at h
  ·cases h
  ·injection h with h;subst h;exact⟨by simpa using h1,rfl⟩
theorem sy{x:By}{p:Nat}{w w':Wr}(h:lJ x p w=some ((),w')):w'={w with nm:=(x,p)::w.nm}/\Ex w w':=by
 unfold lJ at h;split at h
 ·injection h with h;injection h with _ h;subst h;exact⟨rfl,⟨aN,aN,aN,aN,λ_ h=>h,λ_ h=> .inl h,λ_ h=> .inl h,λ_ h=> .inl h,aD _,λh=>⟨h.s1,h.s2,h.l1,h.l2,h.l3⟩⟩⟩
 ·cases h
theorem rW{k:Int}{p:Nat}{w w':Wr}(h:h9 k w=some (p,w')):p=w.ts.length/\SX w w'/\w'.u1=w.u1/\w'.u2=w.u2/\w'.ss=w.ss/\w'.ts=w.ts++[k]/\(Ok w->Pv w' p):=by
 unfold h9 at h;split at h
 ·injection h with h;injection h with h1 h;subst h1 h;refine⟨rfl,⟨⟨aN,bf _ _,aN,aN,λ_ h=>h,λ_ h=> .inl h,λ_ h=> .inl h,λ_ h=> .inl h,aD _,λh=>⟨h.s1,h.s2,λp a=>?_,λp a=>?_,λz b=>?_⟩⟩,rfl,pM rfl⟩,rfl,rfl,rfl,rfl,λhk=>⟨by simp,λe=>?_,λe=>?_,λe=>?_⟩⟩
  ·have:=h.l1 p a;exact⟨by simp;omega,this.2⟩
  ·have:=h.l2 p a;exact⟨by simp;omega,this.2⟩
  ·have:=h.l3 z b;simp;omega
  ·have:=(hk.l1 _ e).1;omega
  ·have:=(hk.l2 _ e).1;omega
  ·have:=hk.l3 _ e;omega
 ·cases h
theorem nQ{F:Lf}(a:iR F){p q:Nat}{t:Tr}{w w':Wr}(h:lL F p t w=some (q,w')):q=p/\SX w w':=by
 unfold lL at h;obtain⟨s,w1,h1,h⟩:=d_ h;obtain⟨b,c,d,e⟩:=a.L _ _ _ _ h1;obtain⟨rfl,f,-⟩:=Ba h e;exact⟨rfl,b.trans f⟩
structure SQ (w w':Wr) (ns:Nm):Prop where
 ex:Ex w w'
 nok:Ok w->nD w->nD w'
 nst:qT ns w w'
def SR(w w':Wr):Prop:=w'.ss=w.ss\/pX w'.ss=false
theorem mt{w w':Wr}{l:List Ms}{s:Ms}(h:w'.ss=l++[s])(a:s.code≠8):SR w w':= .inr (by rw[h];unfold pX;simp[a])
theorem zx{w w':Wr}(h:SX w w'):SR w w':=by
 obtain⟨l,e,a⟩:=h.nr;rcases List.eq_nil_or_concat l with rfl|⟨m,s,rfl⟩
 ·exact .inl (by rw[e];simp)
 ·exact mt (l:=w.ss++m) (by rw[e];simp) (a s (by simp))
theorem sw{lk:By->Option Nm}{s s':Nm×Nat}{a:Int}{nm:By}{b v c el g:Tr}(h:gw lk (cc (st 1 a nm b v c el) g) s= .ok s'):∃t d,ck lk s.1 v []= .ok t/\kW s (nm,t) a= .ok d/\gw lk g d= .ok s':=by
 rw[gw]at h;obtain⟨d,h1,h⟩:=eE h;rw[if_pos rfl]at h1;obtain⟨t,h2,h1⟩:=eE h1;exact⟨t,d,h2,h1,h⟩
theorem uB{lk:By->Option Nm}{s s':Nm×Nat}{a:Int}{nm:By}{f v d el g:Tr}(h:gw lk (cc (st 2 a nm f v d el) g) s= .ok s'):∃k,gP s.1 nm=some k/\ck lk s.1 v []= .ok k/\gw lk g s= .ok s':=by
 rw[gw]at h;obtain⟨i,h1,h⟩:=eE h;rw[if_neg (by decide),if_pos rfl]at h1;split at h1
 ·cases h1
 ·rename_i k e;obtain⟨_,h2,h1⟩:=eE h1;injection h1 with h1;subst h1;unfold mu at h2;obtain⟨t,c,h2⟩:=eE h2;unfold vT at h2;split at h2
  ·rename_i b;subst b;exact⟨t,e,c,h⟩
  ·cases h2
theorem EK{lk:By->Option Nm}{ns:Nm}{x:Tr}{k:Int}{u:Unit}(h:mu lk ns x k= .ok u):ck lk ns x []= .ok k:=by
 unfold mu at h;obtain⟨t,h1,h⟩:=eE h;unfold vT at h;split at h
 ·rename_i e;subst e;exact h1
 ·cases h
theorem uC{lk:By->Option Nm}{s s':Nm×Nat}{a:Int}{nm:By}{b v f el g:Tr}(h:gw lk (cc (st 3 a nm b v f el) g) s= .ok s'):gP s.1 nm=some 2/\ck lk s.1 b []= .ok 1/\ck lk s.1 v []= .ok 1/\gw lk g s= .ok s':=by
 rw[gw]at h;obtain⟨i,h1,h⟩:=eE h;rw[if_neg (by decide),if_neg (by decide),if_pos rfl]at h1;split at h1
 ·cases h1
 ·rename_i k e;split at h1
  ·cases h1
  ·rename_i c;obtain⟨_,h2,h1⟩:=eE h1;obtain⟨_,d,h1⟩:=eE h1;injection h1 with h1;subst h1;have:k=2:=by simpa using c
   subst this;exact⟨e,EK h2,EK d,h⟩
theorem lF{lk:By->Option Nm}{s s':Nm×Nat}{c a:Int}{nm:By}{b v d el g:Tr}(hc:4<=c)(h:gw lk (cc (st c a nm b v d el) g) s= .ok s'):∃e f,ck lk s.1 v []= .ok 1/\gw lk d s= .ok e/\gw lk el (s.1,e.2)= .ok f/\gw lk g (s.1,f.2)= .ok s':=by
 rw[gw]at h;obtain⟨e,h1,h⟩:=eE h;rw[if_neg (by omega),if_neg (by omega),if_neg (by omega)]at h1;obtain⟨_,h2,h1⟩:=eE h1;obtain⟨i,j,h1⟩:=eE h1;obtain⟨k,l,h1⟩:=eE h1;injection h1 with h1;subst h1;exact⟨i,k,EK h2,j,l,h⟩
theorem oV{lk:By->Option Nm}{s s':Nm×Nat}(h:gw lk ce s= .ok s'):s'=s:=by
 rw[gw]at h
 ·injection h with h;exact h.symm
 ·intros;simp_all
theorem lr{lk:By->Option Nm}:∀(f d:Nat)(xs:List Tr),(∀x∈xs,RS f d x)->∀s s',gw lk (chain xs) s= .ok s'->∃l,s'.1=s.1++l
 |f,d,[],_,s,s',h=>by
  obtain rfl:=oV h;exact⟨[],by simp⟩
 |0,d,x::xs,c,s,s',h=>(c x (by simp)).elim
 |f+1,d,x::xs,c,s,s',h=>by
  have g:=c x (by simp);have j:=lr (lk:=lk) (f+1) d xs (λy m=>c y (by simp[m]));have n:=h;rw[RS]at g;rcases g with⟨a,nm,v,-,-,rfl⟩|⟨a,nm,v,-,-,rfl⟩|⟨a,nm,i,v,-,-,-,rfl⟩|⟨a,v,o,el,-,-,-,-,rfl⟩|⟨a,v,o,-,-,-,rfl⟩|⟨a,v,-,rfl⟩|⟨a,v,-,rfl⟩|⟨a,b,nm,p,-,-,rfl⟩
  ·obtain⟨t,q,-,h2,r⟩:=sw n;obtain⟨l,e⟩:=j _ _ r;exact⟨(nm,t)::l,by rw[e,(oX h2).2];simp⟩
  ·obtain⟨k,-,-,r⟩:=uB n;exact j _ _ r
  ·obtain⟨-,-,-,r⟩:=uC n;exact j _ _ r
  all_goals
   obtain⟨q,u,-,-,-,r⟩:=lF (by decide) n;have e:=j _ _ r;exact e
end Go.Proofs.YtnfhpdbbfejioaaGreatDoor.Mid.Sf
