/- AsmReads is true at every text and every list of instructions, and leaves its arguments as they were, in whatever memory holds the listed tables, errors' own type handle and bloomeryref's Fine as the program lays them: the row, and its tied card. -/
import Derived.Test.YtjjjdplgdlaihaaGreatDoorMG
import Derived.Test.YtjjjdplgdlaihaaGreatDoorZ1
import Derived.Test.YtjjjdplgdlaihaaGreatDoorTie
import Derived.Test.YtjjjdplgdlaihaaGreatDoorCards
import Derived.SevenTiedAt
import Derived.LaidHandle
import Derived.LaidSub
import Derived.ChangeMaps5
namespace Go.Proofs.YtjjjdplgdlaihaaGreatDoor
open Go Go.Deep Go.ChangeShapes Go.WideShapes Go.ChangeAt Go.WideMaps Go.WideElems Go.RowKit Go.ChangeMaps

abbrev laidR : List (String × DataW Unit) := [("math/bits.deBruijn32tab", Rows.laid_math_bits_deBruijn32tab), ("math/bits.deBruijn64tab", Rows.laid_math_bits_deBruijn64tab), ("internal/strconv.uint64pow10", Rows.laid_internal_strconv_uint64pow10), ("unicode/utf8.acceptRanges", Rows.laid_unicode_utf8_acceptRanges), ("errors.errorType", Rows.laid_errors_errorType), ("bloomery/word.forms", Rows.laid_bloomery_word_forms), ("bloomery/word.shapes", Rows.laid_bloomery_word_shapes), ("strconv.ErrRange", Rows.laid_strconv_ErrRange), ("strconv.ErrSyntax", Rows.laid_strconv_ErrSyntax), ("bloomery/asm.ops", Rows.laid_bloomery_asm_ops), ("bloomery/bloomeryref.Fine", Rows.laid_bloomery_bloomeryref_Fine), ("unicode/utf8.first", Rows.laid_unicode_utf8_first)]
abbrev laidP : List (String × DataW Unit) := [("math/bits.deBruijn32tab", Rows.laid_math_bits_deBruijn32tab), ("math/bits.deBruijn64tab", Rows.laid_math_bits_deBruijn64tab), ("internal/strconv.uint64pow10", Rows.laid_internal_strconv_uint64pow10), ("unicode/utf8.acceptRanges", Rows.laid_unicode_utf8_acceptRanges), ("bloomery/word.forms", Rows.laid_bloomery_word_forms), ("bloomery/word.shapes", Rows.laid_bloomery_word_shapes), ("strconv.ErrRange", Rows.laid_strconv_ErrRange), ("strconv.ErrSyntax", Rows.laid_strconv_ErrSyntax), ("bloomery/asm.ops", Rows.laid_bloomery_asm_ops), ("bloomery/bloomeryref.Fine", Rows.laid_bloomery_bloomeryref_Fine), ("unicode/utf8.first", Rows.laid_unicode_utf8_first)]

theorem laidR_A : laidR.filter (fun x => x.1 != "errors.errorType" && x.1 != "bloomery/bloomeryref.Fine") = laidA := by kernel_rfl
theorem laidR_P : laidR.filter (fun x => x.2.handleName?.isNone) = laidP := by kernel_rfl
theorem laidR_H : laidR.filter (fun x => x.2.handleName?.isSome) = [("errors.errorType", Rows.laid_errors_errorType)] := by kernel_rfl

theorem etZ : Tryz.prog.globalNamed "errors.errorType" = some 4 := by kernel_rfl
theorem rtZ : (Tryz.prog.cutTypes.find? (·.1 == "internal/reflectlite.rtype")).map (·.2) = some 204 := by kernel_rfl
theorem tsizeZ : ∃ n, Tryz.prog.types.size = n ∧ ((List.range n).filter fun t => Tryz.prog.rowNamed t [101, 114, 114, 111, 114]) = [29] := ⟨_, rfl, by kernel_rfl⟩
theorem errT_of {W : World} (h : laidMetH Tryz.prog laidR W) : ErrT W := by
  have h2 := (laidMetH_iff.1 h).2
  rw [laidR_H] at h2
  obtain ⟨name, u, ty, e1, e2, e3, e4, e5⟩ := h2 _ (List.mem_singleton.2 rfl)
  have en : name = [101, 114, 114, 111, 114] := (Option.some.inj e1).symm
  subst en
  obtain rfl := Option.some.inj (rtZ.symm.trans e2)
  obtain ⟨n, hn, oneRow⟩ := tsizeZ
  have hm : ty ∈ (List.range n).filter fun t => Tryz.prog.rowNamed t [101, 114, 114, 111, 114] := List.mem_filter.2 ⟨List.mem_range.2 (by rw [← hn]; exact e3), e4⟩
  rw [oneRow] at hm
  obtain rfl := List.mem_singleton.1 hm
  have hh : typeHandle Tryz.prog 29 = .pointer (some ⟨13, 29, none⟩) := by kernel_rfl
  rw [hh] at e5
  simpa using World.var?_cell etZ e5 0
theorem gFine : Tryz.prog.globalNamed "bloomery/bloomeryref.Fine" = some 0 := by kernel_rfl
theorem tFine : (Tryz.prog.globals[0]?).map (·.type) = some 25 := by kernel_rfl
theorem cells23 : Tryz.prog.cellsOf 23 = 1 := by kernel_rfl
theorem fine_of {W : World} (h : laidMetH Tryz.prog laidR W) : FineT W := by
  have h1 := (laidMetH_iff.1 h).1
  rw [laidR_P] at h1
  have h2 := h1.filter (fun x => x.1 == "bloomery/bloomeryref.Fine")
  rw [show laidP.filter (fun x => x.1 == "bloomery/bloomeryref.Fine") = [("bloomery/bloomeryref.Fine", .agg [.lit (.int .i64 0), .lit (.int .i64 (-1))])] by kernel_rfl] at h2
  obtain ⟨_, ⟨g0, t0, cs0, f0, p0, q0, hg0, ht0, hv0, hd0, _, _⟩, _, _⟩ := h2
  obtain rfl := Option.some.inj (gFine.symm.trans hg0)
  obtain rfl := Option.some.inj (tFine.symm.trans ht0)
  have c0 : ∀ i, W.cell? ⟨0, i, none⟩ = cs0.toList[i]? := fun i => by rw [World.var?_cell hg0 hv0 i]; simp
  obtain ⟨_, d0, _, e0, k0⟩ := str_at Tryz.underlying25 hd0 0 _ rfl
  obtain ⟨_, d1, _, e1, k1⟩ := str_at Tryz.underlying25 hd0 1 _ rfl
  cases e0; cases e1
  obtain ⟨z0, y0, x0, _⟩ := DataW.trod_int Tryz.underlying23 k0
  obtain ⟨z1, y1, x1, _⟩ := DataW.trod_int Tryz.underlying3 k1
  have f0 : cs0.toList[0]? = some (.int .i64 z0) := by simpa using sub_get y0 0 _ rfl
  have f1 : cs0.toList[1]? = some (.int .i64 z1) := by simpa using sub_get y1 0 _ rfl
  simp only [Prod.mk.injEq, DataW.lit.injEq, Lit.int.injEq, true_and] at x0 x1
  obtain ⟨rfl, _⟩ := x0
  obtain ⟨rfl, _⟩ := x1
  exact ⟨by rw [c0]; exact f0, by rw [c0]; exact f1⟩

/-- A start for the witness: the type handle is there, then all else is laid. -/
abbrev startW (P : Program) (l : List (String × DataW Unit)) (os : Os) : World := ((World.holding P os ⟨#[], #[], []⟩).setCell ⟨4, 0, none⟩ (.iface 204 (.agg #[.pointer (some ⟨13, 29, none⟩)]))).layVars P l
theorem startR_met (os : Os) (args : Array Value) : laidMetH Tryz.prog laidR ((startW Tryz.prog laidP os).forCall (fun _ _ => 0) ⟨#[], args, []⟩).memory := by
  have e1 : (laidP.filter fun x => (laidP.map (·.1)).contains x.1) = laidP := List.filter_eq_self.2 fun x hx => List.contains_iff_mem.2 (List.mem_map.2 ⟨x, hx, rfl⟩)
  have e2 : (laidP.filter fun x => !(laidP.map (·.1)).contains x.1) = [] := List.filter_eq_nil_iff.2 fun x hx => by rw [List.contains_iff_mem.2 (List.mem_map.2 ⟨x, hx, rfl⟩)]; simp
  have h : laidMet Tryz.prog laidP (startW Tryz.prog laidP os) := laidMet_layVars (w0 := (World.holding Tryz.prog os ⟨#[], #[], []⟩).setCell ⟨4, 0, none⟩ (.iface 204 (.agg #[.pointer (some ⟨13, 29, none⟩)]))) (laidP.map (·.1)) [] (by rw [e1]) (by rw [e1]; kernel_rfl) (by rw [e1]; kernel_rfl) (by rw [e2]; exact LaidIn.none)
  refine laidMetH_of_parts3 (fuel := 8) ?_ (by kernel_rfl) (by kernel_rfl)
  rw [laidR_P]
  exact h.of_heap (by simp [World.memory, World.forCall, Input.heap])

set_option maxRecDepth 100000 in
theorem reads_lifted (os : Os) (started : os.Started) (H : Type) (enc : TypeId × Value → H) :
    ReturnsInHanded {} Tryz.checked os 3 .any (fun w args => (Rows.asmReadsSpec.pre enc Tryz.prog Tryz.f3 [] false w args ∧ laidMetH Tryz.prog laidR w) ∧ sizedMet enc Tryz.prog Tryz.f3 (OpenSpec.ofChange Rows.asmReadsSpec) false w args)
      (Rows.asmReadsSpec.post enc Tryz.prog Tryz.f3 false true false false) := by
  refine returnsInHanded_of_calls (C := Tryz.checked) own started (by kernel_rfl)
    (ChangeSpec.witness_shaped (enc := enc) (C := Tryz.checked) (os := os) (X := fun w _ => laidMetH Tryz.prog laidR w) false (startW Tryz.prog laidP os) #[.string ⟨#[]⟩, .slice none 0 0] 8 (World.layVars_os _ _ _)
      (World.shaped_of_ZipB (by kernel_rfl) (by kernel_rfl)) (by kernel_rfl) (by kernel_rfl) (by kernel_rfl) (startR_met os _)) ?_
  intro w tape i _ hsh _ hok hpre _
  obtain ⟨_, _, _, fn', hfn', _, _, _, _, hval0⟩ := hok
  obtain rfl : fn' = Tryz.f3 := Option.some.inj (hfn'.symm.trans Tryz.func3)
  obtain ⟨⟨⟨ds, gs, before, hw0, hc⟩, hx⟩, hz⟩ := hpre
  have hW := DataW.Whole.of_heap (w' := w.forCall tape i) (by rfl) hw0
  have hL : laidMetH Tryz.prog laidR (w.forCall tape i) := hx.of_heap (by rfl)
  obtain ⟨W, hWe⟩ : ∃ W, w.forCall tape i = W := ⟨_, rfl⟩
  rw [hWe] at hsh hval0 hW hL ⊢
  obtain ⟨args, ha⟩ : ∃ args, i.args = args := ⟨_, rfl⟩
  rw [ha] at hval0 hW ⊢
  clear hWe ha hx hz hw0 hc
  have hval : ∀ (j : Nat) t v, Tryz.f3.params[j]? = some t → args[j]? = some v → Value.okWide Tryz.prog W .any w.heap.size t v := hval0
  have hW' := hW
  obtain ⟨p, q, hA0, hV, rfl, hfz, hnd⟩ := hW
  have hA : DataW.TrodAll enc Tryz.prog W 0 (fun _ => true) true Tryz.f3.params.toList args.toList ds p := hA0
  rw [Tryz.params3] at hA hval
  obtain ⟨v0, v1, d0, d1, p0, p1, rfl, rfl, rfl, h0, h1⟩ := trodAll_two hA
  obtain ⟨rfl, rfl⟩ := trodVars_none hV
  have lt1 : ∀ x ∈ p1, x.block < W.heap.size := by obtain ⟨m, hm⟩ := h1; exact DataW.trod_lt m _ _ _ hm
  have k1 := h1
  obtain ⟨s, rfl, rfl, rfl, hsz⟩ := open_string Tryz.underlying9 (hval 0 9 v0 rfl rfl) h0
  obtain ⟨q2, c2, m, rfl, hc2, hm, hpm, hbm⟩ := open_insts (hval 1 22 v1 rfl rfl) h1
  have hLA : laidMetH Tryz.prog laidA W := by rw [← laidR_A]; exact hL.filter _
  obtain ⟨he, h11⟩ := env_of hLA hsh
  have hwalk : Calls Tryz.prog 3 #[.string s, .slice q2 m.length c2] W fun e w' => e = .returned (.bool true) ∧ Below W.heap.size W w' := by
    by_cases hsl : 1200 < s.size ∨ 40 < m.length
    · exact reads_long s W q2 m.length c2 hsl
    · exact reads_any s W he (fine_of hL) (errT_of hL) h11 (by omega) q2 c2 m hm (by omega) hbm
  refine hwalk.mono fun e W' ⟨he, bel⟩ => ?_
  subst he
  refine ChangeSpec.post_blind ?_
  exact ⟨_, _, _, [], _, [], hW', trodAll_mk1 (shut_bool Tryz.underlying4 _), (trodAll_cons_mk (shut_string Tryz.underlying9 hsz) (trodAll_cons_mk (Below.trod laidOut (by kernel_rfl) (of_decide_eq_true (by kernel_rfl)) k1 bel lt1) trodAll_mk0)), rfl, bel.frame _, fun h => by cases h⟩

theorem reads_row : Rows.AsmReadsSaid :=
  OpenClaim.holds_of_wide 3 Tryz.f3 rfl rfl rfl rfl rfl rfl rfl ⟨rfl, rfl, rfl, rfl, rfl⟩ rfl rfl rfl rfl rfl (by kernel_rfl) Tryz.func3 (by kernel_rfl)
    (of_decide_eq_true (by kernel_rfl)) (by unfold Func.isWrapper; first | (rw [if_pos (by decide +kernel)]; kernel_rfl) | (rw [if_neg (by decide +kernel)]; exact ⟨rfl, rfl⟩))
    (fun os started H enc _ => reads_lifted os started H enc)

theorem asmReads_holds : Rows.AsmReadsCardSaid :=
  Claim7.holds_tied_plain_at .later [] [.data, .data, .data, .data, .handle, .data, .data, .sentinel, .sentinel, .data, .data, .pinned] true (true, "3e11ea84058dbeec3cce7a6f4bf9d8079c51cce6fec3e3c1e2f939c0724e74e4") true
    reads_row (fun _ h => by cases h) (by kernel_rfl) (fun _ h => by cases h) asmReads_row_tie rfl ⟨rfl, rfl⟩ (by kernel_rfl) rfl
    (fun f fn hf hfn => by
      obtain rfl : f = 3 := Option.some.inj ((show Tryz.prog.funcNamed "bloomery/bloomerylaw.AsmReads" = some 3 by kernel_rfl).symm.trans hf) |>.symm
      obtain rfl : fn = Tryz.f3 := (Option.some.inj (Tryz.func3.symm.trans hfn)).symm
      exact ⟨by kernel_rfl, fun j t ht => by
        rw [Tryz.params3] at ht
        have hm : t ∈ [9, 22] := by simpa using Array.mem_of_getElem? ht
        have hall : ([9, 22].all fun u => !Tryz.prog.wantsStandIn u) = true := by kernel_rfl
        exact (show Tryz.prog.wantsStandIn t = false by simpa using List.all_eq_true.1 hall t hm)⟩)
    (by kernel_rfl)
#print axioms asmReads_holds
end Go.Proofs.YtjjjdplgdlaihaaGreatDoor
