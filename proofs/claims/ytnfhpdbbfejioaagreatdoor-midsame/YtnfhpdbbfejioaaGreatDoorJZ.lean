/- MidSame is true at every text and every list of numbers, and leaves what is given as it was, in whatever memory holds the listed tables and the type handle of errors as the program lays them: the row, and its tied card. -/
import Derived.Test.YtnfhpdbbfejioaaGreatDoorJ26
import Derived.Test.YtnfhpdbbfejioaaGreatDoorJ24
set_option linter.unusedVariables false
set_option linter.unusedSimpArgs false
set_option maxRecDepth 100000
set_option maxHeartbeats 16000000
namespace Go.Proofs.YtnfhpdbbfejioaaGreatDoor
open Go Go.Deep Go.ChangeShapes Go.WideShapes Go.ChangeAt Go.WideMaps Go.WideElems Go.RowKit Go.ChangeMaps
abbrev rH:List (String×DataW Unit):=[("math/bits.deBruijn32tab",Rows.laid_math_bits_deBruijn32tab),("math/bits.deBruijn64tab",Rows.laid_math_bits_deBruijn64tab),("internal/strconv.uint64pow10",Rows.laid_internal_strconv_uint64pow10),("unicode/utf8.acceptRanges",Rows.laid_unicode_utf8_acceptRanges),("errors.errorType",Rows.laid_errors_errorType),("bloomery/mid.marks",Rows.laid_bloomery_mid_marks),("bloomery/mid.forms",Rows.laid_bloomery_mid_forms),("strconv.ErrRange",Rows.laid_strconv_ErrRange),("strconv.ErrSyntax",Rows.laid_strconv_ErrSyntax),("bloomery/tree.marks",Rows.laid_bloomery_tree_marks),("bloomery/tree.pairs",Rows.laid_bloomery_tree_pairs),("unicode/utf8.first",Rows.laid_unicode_utf8_first)]
theorem Cc:rH.filter (λx=>x.2.handleName?.isNone)=Mid.ky:=by kernel_rfl
theorem K_:rH.filter (fun x=>x.2.handleName?.isSome)=[("errors.errorType",Rows.laid_errors_errorType)]:=by kernel_rfl
theorem etZ:Tryz.prog.globalNamed "errors.errorType" =some 0:=by kernel_rfl
theorem rtZ:(Tryz.prog.cutTypes.find? (·.1== "internal/reflectlite.rtype")).map (·.2)=some 203:=by kernel_rfl
theorem PD:∃n,Tryz.prog.types.size=n/\((List.range n).filter λt=>Tryz.prog.rowNamed t [101,114,114,111,114])=[34]:=⟨_,rfl,by kernel_rfl⟩
theorem La{W:jW}(h:laidMetH Tryz.prog rH W):Tl.sZ W:=by
 have h2:=(laidMetH_iff.1 h).2;rw[K_]at h2;obtain⟨a,u,ty,b,c,d,e,f⟩:=h2 _ (a_.2 rfl);have g:=(aS b).symm;subst g;obtain rfl:=aS (rtZ.symm.trans c);obtain⟨n,i,j⟩:=PD;have k:ty∈(List.range n).filter λt=>Tryz.prog.rowNamed t [101,114,114,111,114]:=cY.2 ⟨List.mem_range.2 (by rw[<-i];exact d),e⟩;rw[j]at k;obtain rfl:=a_.1 k;have l:typeHandle Tryz.prog 34=jQ (some (jB 14 34)):=by kernel_rfl
 rw[l]at f;simpa using dg etZ f 0
theorem He{W:jW}(h:laidMetH Tryz.prog rH W):laidMetH Tryz.prog Mid.ky W:=by
 have h1:=(laidMetH_iff.1 h).1;rw[Cc]at h1;rw[MakeChecks.laidMetH_plain _ _ _ (by kernel_rfl)];exact h1
abbrev Ab(P:Program)(l:List (String×DataW Unit))(os:Os):jW:=((World.holding P os ⟨#[],#[],[]⟩).setCell (jA 0) (.iface 203 (.agg #[jQ (some (jB 14 34))]))).layVars P l
theorem Ac(os:Os)(args:Array Value):laidMetH Tryz.prog rH ((Ab Tryz.prog Mid.ky os).forCall (λ_ _=>0) ⟨#[],args,[]⟩).memory:=by
 have a:(Mid.ky.filter λx=>(Mid.ky.map (·.1)).contains x.1)=Mid.ky:=List.filter_eq_self.2 λx b=>cz.2 (aT.2 ⟨x,b,rfl⟩);have c:(Mid.ky.filter λx=> !(Mid.ky.map (·.1)).contains x.1)=[]:=List.filter_eq_nil_iff.2 λx b=>by rw[cz.2 (aT.2 ⟨x,b,rfl⟩)];simp
 have h:laidMet Tryz.prog Mid.ky (Ab Tryz.prog Mid.ky os):=laidMet_layVars (w0:=(World.holding Tryz.prog os ⟨#[],#[],[]⟩).setCell (jA 0) (.iface 203 (.agg #[jQ (some (jB 14 34))]))) (Mid.ky.map (·.1)) [] (by rw[a]) (by rw[a];kernel_rfl) (by rw[a];kernel_rfl) (by rw[c];exact LaidIn.none);refine laidMetH_of_parts3 (fuel:=8) ?_ (by kernel_rfl) (by kernel_rfl);rw[Cc];exact h.of_heap (by simp[World.memory,World.forCall,Input.heap])
theorem tT(os:Os)(a:os.Started)(H:Type)(enc:TypeId×jU->H):
  ReturnsInHanded {} Tryz.checked os 6 .any (λw args=>(Rows.midSameSpec.pre enc Tryz.prog Tryz.f6 [] false w args/\laidMetH Tryz.prog rH w)/\sizedMet enc Tryz.prog Tryz.f6 (OpenSpec.ofChange Rows.midSameSpec) false w args)
   (Rows.midSameSpec.post enc Tryz.prog Tryz.f6 false true false false):=by
 refine returnsInHanded_of_calls (C:=Tryz.checked) own a (by kernel_rfl)
  (ChangeSpec.witness_shaped (enc:=enc) (C:=Tryz.checked) (os:=os) (X:=λw _=>laidMetH Tryz.prog rH w) false (Ab Tryz.prog Mid.ky os) #[jT ⟨#[]⟩,jS] 8 (World.layVars_os _ _ _)
   (World.shaped_of_ZipB (by kernel_rfl) (by kernel_rfl)) (by kernel_rfl) (by kernel_rfl) (by kernel_rfl) (Ac os _)) ?_
 intro w b i _ c _ d f _;obtain⟨_,_,_,g,j,_,_,_,_,k⟩:=d;obtain rfl:g=Tryz.f6:=aS (j.symm.trans Tryz.func6);obtain⟨⟨⟨ds,gs,l,n,hc⟩,o⟩,r⟩:=f;have t:=DataW.Whole.of_heap (w':=w.forCall b i) (by rfl) n;have u:laidMetH Tryz.prog rH (w.forCall b i):=o.of_heap (by rfl);obtain⟨W,v⟩:∃W,w.forCall b i=W:=⟨_,rfl⟩;rw[v]at c k t u⊢;obtain⟨args,y⟩:∃args,i.args=args:=⟨_,rfl⟩;rw[y]at k t⊢;clear v y o r n hc;have z:=k;have A:=t;obtain⟨p,q,B,D,rfl,E,F⟩:=t;have I:=B;rw[Tryz.params6]at I z;obtain⟨J,K,L,M,N,O,rfl,rfl,rfl,P,h1⟩:=trodAll_two I;obtain⟨rfl,rfl⟩:=trodVars_none D;have Q:∀x∈O,x.block<W.heap.size:=by obtain⟨m,S⟩:=h1;exact DataW.trod_lt m _ _ _ S
 have T:=h1;obtain⟨s,rfl,rfl,rfl,U⟩:=open_string Tryz.underlying9 (z 0 9 J rfl rfl) P;obtain⟨G,V,-⟩:=Mid.CK (z 1 22 K rfl rfl) h1;obtain⟨Y,Z,a⟩:=Mid.JL (He u) c;have d:=Mid.xF W Y Z a (La u) s K G V;refine d.mono λe g ⟨j,bel⟩=>?_;subst j;refine ChangeSpec.post_blind ?_;exact⟨_,_,_,[],_,[],A,trodAll_mk1 (shut_bool Tryz.underlying4 _),(trodAll_cons_mk (shut_string Tryz.underlying9 U) (trodAll_cons_mk (Below.trod Lh (by kernel_rfl) (of_decide_eq_true (by kernel_rfl)) T bel Q) trodAll_mk0)),rfl,bel.frame _,λh=>by cases h⟩
theorem yD:Rows.MidSameSaid:=
 OpenClaim.holds_of_wide 6 Tryz.f6 rfl rfl rfl rfl rfl rfl rfl ⟨rfl,rfl,rfl,rfl,rfl⟩ rfl rfl rfl rfl rfl (by kernel_rfl) Tryz.func6 un
  (of_decide_eq_true (by kernel_rfl)) (by unfold Func.isWrapper;first|(rw[if_pos (by decide+kernel)];kernel_rfl)|(rw[if_neg (by decide+kernel)];exact⟨rfl,rfl⟩))
  (λos a H enc _=>tT os a H enc)
theorem midSame_holds:Rows.MidSameCardSaid:=
 Claim7.holds_tied_plain_at .later [] [.data,.data,.data,.data,.handle,.data,.data,.sentinel,.sentinel,.data,.data,.pinned] true (true, "99489c62abd01a6948009961e7f19ebb585607cde6b8319f79fb5a7a43a0fbc8") true
  yD (λ_ h=>by cases h) (by kernel_rfl) (λ_ h=>by cases h) midSame_row_tie rfl ⟨rfl,rfl⟩ (by kernel_rfl) rfl
  (λf a b c=>by
   obtain rfl:f=6:=aS ((show Tryz.prog.funcNamed "bloomery/bloomerykeep.MidSame" =some 6 by kernel_rfl).symm.trans b)|>.symm;obtain rfl:a=Tryz.f6:=(aS (Tryz.func6.symm.trans c)).symm;exact⟨by kernel_rfl,fun j t d=>by
    rw[Tryz.params6]at d;have e:t∈[9,22]:=by simpa using Array.mem_of_getElem? d
    have g:([9,22].all λu=> !Tryz.prog.wantsStandIn u)=true:=by kernel_rfl
    exact(show Tryz.prog.wantsStandIn t=false by simpa using bz.1 g t e)⟩)
  (by kernel_rfl)
end Go.Proofs.YtnfhpdbbfejioaaGreatDoor
