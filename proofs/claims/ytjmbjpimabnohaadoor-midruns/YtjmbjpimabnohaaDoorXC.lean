/- MidRuns is true at every list of functions, every list of numbers, every fuel, every mark and every two numbers, and leaves the lists as they were, in whatever memory holds the listed tables as the program lays them: the row, and its tied card. -/
import Derived.Test.YtjmbjpimabnohaaDoorXD
import Derived.Test.YtjmbjpimabnohaaDoorTie
import Derived.Test.YtjmbjpimabnohaaDoorCards
import Derived.ChangeMaps5
import Derived.ChangeSlices
namespace Go.Proofs.YtjmbjpimabnohaaDoor
set_option linter.unusedVariables false
open Go Go.Deep Go.ChangeShapes Go.WideShapes Go.ChangeAt Go.WideMaps Go.WideElems Go.RowKit Go.ChangeMaps
namespace Mid
theorem tForms : (Tryd.prog.globals[0]?).map (·.type) = some 111 := by kernel_rfl
theorem cells110 : Tryd.prog.cellsOf 110 = 5 := by kernel_rfl
theorem mark_cells {w : World} {fuel : Nat} {cs : List Value} {p : List MemPlace} (h : DataW.trod (fun _ => ()) Tryd.prog w 0 (fun _ => true) false fuel 138 cs = some (.agg (marksL.map fun r => .lit (.string r)), p)) (j : Nat) (hj : j < 11) : cs[j]? = some (.string ⟨(marksL.getD j []).toArray⟩) := by
  obtain ⟨m, d, p', hd, h2⟩ := arr_at Tryd.underlying138 h j hj
  rw [List.getElem?_map, mark_get j hj] at hd
  simp only [Option.map_some, Option.some.injEq] at hd
  subst hd
  have := str_one h2
  rw [cells9, Nat.mul_one] at this
  exact this
theorem mk_val (j : Nat) (hj : j < 11) : marksV.getD j undef = .string ⟨(marksL.getD j []).toArray⟩ := by
  have h : j = 0 ∨ j = 1 ∨ j = 2 ∨ j = 3 ∨ j = 4 ∨ j = 5 ∨ j = 6 ∨ j = 7 ∨ j = 8 ∨ j = 9 ∨ j = 10 := by omega
  rcases h with rfl | rfl | rfl | rfl | rfl | rfl | rfl | rfl | rfl | rfl | rfl <;> rfl
theorem form_cells {w : World} {fuel : Nat} {cs : List Value} {p : List MemPlace} (h : DataW.trod (fun _ => ()) Tryd.prog w 0 (fun _ => true) false fuel 111 cs = some (.agg ((List.range 15).map fun j => .agg [.lit (.int .i64 (frm j).d), .lit (.int .i64 (frm j).a), .lit (.int .i64 (frm j).b), .lit (.int .i64 (frm j).c), .lit (.bool (frm j).g)]), p)) (j : Nat) (hj : j < 15) :
    cs[j * 5]? = some (.int .i64 (frm j).d) ∧ cs[j * 5 + 1]? = some (.int .i64 (frm j).a) ∧ cs[j * 5 + 2]? = some (.int .i64 (frm j).b) ∧ cs[j * 5 + 3]? = some (.int .i64 (frm j).c) ∧ cs[j * 5 + 4]? = some (.bool (frm j).g) := by
  obtain ⟨m, d, p', hd, h2⟩ := arr_at Tryd.underlying111 h j hj
  rw [List.getElem?_map, List.getElem?_range hj] at hd
  simp only [Option.map_some, Option.some.injEq] at hd
  rw [cells110] at h2
  subst hd
  obtain ⟨_, d0, _, e0, h0⟩ := str_at Tryd.underlying110 h2 0 _ rfl
  obtain ⟨_, d1, _, e1, h1⟩ := str_at Tryd.underlying110 h2 1 _ rfl
  obtain ⟨_, d2, _, e2, h3⟩ := str_at Tryd.underlying110 h2 2 _ rfl
  obtain ⟨_, d3, _, e3, h4⟩ := str_at Tryd.underlying110 h2 3 _ rfl
  obtain ⟨_, d4, _, e4, h5⟩ := str_at Tryd.underlying110 h2 4 _ rfl
  cases e0; cases e1; cases e2; cases e3; cases e4
  have z0 := int_sub Tryd.underlying3 cells3 h0
  have z1 := int_sub Tryd.underlying3 cells3 h1
  have z2 := int_sub Tryd.underlying3 cells3 h3
  have z3 := int_sub Tryd.underlying3 cells3 h4
  have z4 := bool_sub Tryd.underlying4 cells4 h5
  have y0 := sub_get (cs := cs) rfl 0 _ z0
  rw [Nat.add_zero] at y0
  exact ⟨y0, sub_get rfl 1 _ z1, sub_get rfl 2 _ z2, sub_get rfl 3 _ z3, sub_get rfl 4 _ z4⟩
set_option maxRecDepth 100000 in
theorem env_of {W : World} (hR : laidMetH Tryd.prog laidP W) (hsh : W.ShapedOpen Tryd.prog) : FmE W ∧ MkE W ∧ ∃ m, W.cell? ⟨3, 0, none⟩ = some (.int .i64 m) := by
  have h : laidMet Tryd.prog laidP W := by
    rw [MakeChecks.laidMetH_plain _ _ _ (by kernel_rfl)] at hR
    exact hR
  have h1 := h.filter (fun x => x.1 == "bloomery/mid.marks")
  rw [show laidP.filter (fun x => x.1 == "bloomery/mid.marks") = [("bloomery/mid.marks", Rows.laid_bloomery_mid_marks)] by kernel_rfl] at h1
  have h2 := h.filter (fun x => x.1 == "bloomery/mid.forms")
  rw [show laidP.filter (fun x => x.1 == "bloomery/mid.forms") = [("bloomery/mid.forms", Rows.laid_bloomery_mid_forms)] by kernel_rfl] at h2
  obtain ⟨_, ⟨g0, t0, cs0, f0, p0, q0, hg0, ht0, hv0, hd0, _, _⟩, _, _⟩ := h1
  obtain rfl := Option.some.inj (gMarks.symm.trans hg0)
  obtain rfl := Option.some.inj (tMarks.symm.trans ht0)
  rw [marksD] at hd0
  have c0 : ∀ i, W.cell? ⟨1, i, none⟩ = cs0.toList[i]? := fun i => by rw [World.var?_cell hg0 hv0 i]; simp
  obtain ⟨_, ⟨g1, t1, cs1, f1, p1, q1, hg1, ht1, hv1, hd1, _, _⟩, _, _⟩ := h2
  obtain rfl := Option.some.inj (gForms.symm.trans hg1)
  obtain rfl := Option.some.inj (tForms.symm.trans ht1)
  rw [formsD] at hd1
  have c1 : ∀ i, W.cell? ⟨0, i, none⟩ = cs1.toList[i]? := fun i => by rw [World.var?_cell hg1 hv1 i]; simp
  refine ⟨fun j hj => ?_, fun j hj => ?_, Go.Proofs.cell_of_shapedOpen_int (zero := #[.int .i64 0]) (t := 3) hsh (of_decide_eq_true (by kernel_rfl)) (by kernel_rfl) rfl (by kernel_rfl) (by kernel_rfl) Tryd.underlying3⟩
  · rw [c1, c1, c1, c1, c1]
    exact form_cells hd1 j hj
  · rw [c0, mk_val j hj]
    exact mark_cells hd0 j hj
end Mid
open Mid
set_option maxRecDepth 100000 in
theorem midRuns_lifted (os : Os) (started : os.Started) (H : Type) (enc : TypeId × Value → H) :
    ReturnsInHanded {} Tryd.checked os 3 .any (fun w args => (Rows.midRunsSpec.pre enc Tryd.prog Tryd.f3 [] false w args ∧ laidMetH Tryd.prog laidP w) ∧ sizedMet enc Tryd.prog Tryd.f3 (OpenSpec.ofChange Rows.midRunsSpec) false w args)
      (Rows.midRunsSpec.post enc Tryd.prog Tryd.f3 false true false false) := by
  refine returnsInHanded_of_calls (C := Tryd.checked) own started (by kernel_rfl)
    (ChangeSpec.witness_shaped (enc := enc) (C := Tryd.checked) (os := os) (X := fun w _ => laidMetH Tryd.prog laidP w) false (World.laidAll Tryd.prog os laidP) #[.slice none 0 0, .slice none 0 0, .int .i64 0, .string ⟨#[]⟩, .int .i64 0, .int .i64 0] 8 (World.laidAll_os _ _ _)
      (World.shaped_of_ZipB (by kernel_rfl) (by kernel_rfl)) (by kernel_rfl) (by kernel_rfl) (by kernel_rfl)
      (by rw [MakeChecks.laidMetH_plain _ _ _ (by kernel_rfl)]; exact laidMet_laidAll _ (by kernel_rfl) (by kernel_rfl))) ?_
  intro w tape i _ hsh _ hok hpre _
  obtain ⟨_, _, _, fn', hfn', _, _, _, _, hval0⟩ := hok
  obtain rfl : fn' = Tryd.f3 := Option.some.inj (hfn'.symm.trans Tryd.func3)
  obtain ⟨⟨⟨ds, gs, before, hw0, hc⟩, hx⟩, hz⟩ := hpre
  have hW := DataW.Whole.of_heap (w' := w.forCall tape i) (by rfl) hw0
  have hL : laidMetH Tryd.prog laidP (w.forCall tape i) := hx.of_heap (by rfl)
  obtain ⟨W, hWe⟩ : ∃ W, w.forCall tape i = W := ⟨_, rfl⟩
  rw [hWe] at hsh hval0 hW hL ⊢
  obtain ⟨args, ha⟩ : ∃ args, i.args = args := ⟨_, rfl⟩
  rw [ha] at hval0 hW ⊢
  clear hWe ha hx hz hw0 hc
  have hval : ∀ (j : Nat) t v, Tryd.f3.params[j]? = some t → args[j]? = some v → Value.okWide Tryd.prog W .any w.heap.size t v := hval0
  have hW' := hW
  obtain ⟨p, q, hA0, hV, rfl, hfz, hnd⟩ := hW
  have hA : DataW.TrodAll enc Tryd.prog W 0 (fun _ => true) true Tryd.f3.params.toList args.toList ds p := hA0
  rw [Tryd.params3] at hA hval
  obtain ⟨v0, vs0, d0, ds0, p0, q0, hargs, rfl, rfl, h0, r0⟩ := trodAll_cons hA
  obtain ⟨v1, vs1, d1, ds1, p1, q1, rfl, rfl, rfl, h1, r1⟩ := trodAll_cons r0
  obtain ⟨v2, vs2, d2, ds2, p2, q2, rfl, rfl, rfl, h2, r2⟩ := trodAll_cons r1
  obtain ⟨v3, vs3, d3, ds3, p3, q3, rfl, rfl, rfl, h3, r3⟩ := trodAll_cons r2
  obtain ⟨v4, vs4, d4, ds4, p4, q4, rfl, rfl, rfl, h4, r4⟩ := trodAll_cons r3
  obtain ⟨v5, vs5, d5, ds5, p5, q5, rfl, rfl, rfl, h5, r5⟩ := trodAll_cons r4
  obtain ⟨rfl, rfl, rfl⟩ := trodAll_nil r5
  obtain rfl : args = #[v0, v1, v2, v3, v4, v5] := by cases args; simp_all
  obtain ⟨rfl, rfl⟩ := trodVars_none hV
  have lt0 : ∀ x ∈ p0, x.block < W.heap.size := by obtain ⟨m, hm⟩ := h0; exact DataW.trod_lt m _ _ _ hm
  have k0 := h0
  have lt1 : ∀ x ∈ p1, x.block < W.heap.size := by obtain ⟨m, hm⟩ := h1; exact DataW.trod_lt m _ _ _ hm
  have k1 := h1
  obtain ⟨ql, cl, L, hv0, hRw⟩ := open_fns (hval 0 22 v0 rfl rfl) h0
  obtain ⟨G, hG, hGi⟩ := open_nums (hval 1 23 v1 rfl rfl) h1
  obtain ⟨a2, rfl, rfl, rfl, w2⟩ := open_int Tryd.underlying3 (hval 2 3 v2 rfl rfl) h2
  obtain ⟨s, rfl, rfl, rfl, hsz⟩ := open_string Tryd.underlying9 (hval 3 9 v3 rfl rfl) h3
  obtain ⟨a4, rfl, rfl, rfl, w4⟩ := open_int Tryd.underlying2 (hval 4 2 v4 rfl rfl) h4
  obtain ⟨a5, rfl, rfl, rfl, w5⟩ := open_int Tryd.underlying2 (hval 5 2 v5 rfl rfl) h5
  obtain ⟨e1, e2, e3⟩ := env_of hL hsh
  have hmain := midRuns_any W ql cl L hRw e1 e2 e3 v1 G hG hGi a2 (i64_wf w2) s a4 a5 (i64_wf w4) (i64_wf w5)
  rw [← hv0] at hmain
  refine hmain.mono fun e W' ⟨he, bel⟩ => ?_
  subst he
  refine ChangeSpec.post_blind ?_
  exact ⟨_, _, _, [], _, [], hW', trodAll_mk1 (shut_bool Tryd.underlying4 _), (trodAll_cons_mk (Below.trod laidOut (by kernel_rfl) (of_decide_eq_true (by kernel_rfl)) k0 bel lt0) (trodAll_cons_mk (Below.trod laidOut (by kernel_rfl) (of_decide_eq_true (by kernel_rfl)) k1 bel lt1) (trodAll_cons_mk (shut_int Tryd.underlying3 w2) (trodAll_cons_mk (shut_string Tryd.underlying9 hsz) (trodAll_cons_mk (shut_int Tryd.underlying2 w4) (trodAll_cons_mk (shut_int Tryd.underlying2 w5) trodAll_mk0)))))), rfl, bel.frame _, fun h => by cases h⟩

theorem midRuns_row : Rows.MidRunsSaid :=
  OpenClaim.holds_of_wide 3 Tryd.f3 rfl rfl rfl rfl rfl rfl rfl ⟨rfl, rfl, rfl, rfl, rfl⟩ rfl rfl rfl rfl rfl (by kernel_rfl) Tryd.func3 (by kernel_rfl)
    (of_decide_eq_true (by kernel_rfl)) (by unfold Func.isWrapper; first | (rw [if_pos (by decide +kernel)]; kernel_rfl) | (rw [if_neg (by decide +kernel)]; exact ⟨rfl, rfl⟩))
    (fun os started H enc _ => midRuns_lifted os started H enc)

theorem midRuns_holds : Rows.MidRunsCardSaid :=
  Claim7.holds_tied_plain_at .later [] [.data, .data] true (true, "1b8fb4b90e5e5233e346669a8f704d82fc948e2aefdbc466756eedc3a0879416") true
    midRuns_row (fun _ h => by cases h) (by kernel_rfl) (fun _ h => by cases h) midRuns_row_tie rfl ⟨rfl, rfl⟩ (by kernel_rfl) rfl
    (fun f fn hf hfn => by
      obtain rfl : f = 3 := Option.some.inj ((show Tryd.prog.funcNamed "bloomery/bloomerylaw.MidRuns" = some 3 by kernel_rfl).symm.trans hf) |>.symm
      obtain rfl : fn = Tryd.f3 := (Option.some.inj (Tryd.func3.symm.trans hfn)).symm
      exact ⟨by kernel_rfl, fun j t ht => by
        rw [Tryd.params3] at ht
        have hm : t ∈ [22, 23, 3, 9, 2, 2] := by simpa using Array.mem_of_getElem? ht
        have hall : ([22, 23, 3, 9, 2, 2].all fun u => !Tryd.prog.wantsStandIn u) = true := by kernel_rfl
        exact (show Tryd.prog.wantsStandIn t = false by simpa using List.all_eq_true.1 hall t hm)⟩)
    (by kernel_rfl)
#print axioms midRuns_holds
end Go.Proofs.YtjmbjpimabnohaaDoor
