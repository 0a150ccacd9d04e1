/- HA HB FD -/
import Derived.Test.YtjmbjpimabnohaaDoorK13
import Derived.Test.YtjmbjpimabnohaaDoorK14
import Derived.Test.YtjmbjpimabnohaaDoorTie
import Derived.Test.YtjmbjpimabnohaaDoorCards
namespace Go.Proofs.YtjmbjpimabnohaaDoor
set_option linter.unusedVariables false
open Go Go.Deep Go.ChangeShapes Go.WideShapes Go.ChangeAt Go.WideMaps Go.WideElems Go.RowKit Go.ChangeMaps
namespace Mid
theorem tForms : (Tryd.prog.globals[0]?).map (·.type) = some 111 := by kernel_rfl
theorem cells110 : Tryd.prog.cellsOf 110 = 5 := by kernel_rfl
theorem mark_cells {w : World} {fuel : Nat} {cs : List Value} {p : List MemPlace} (h : DataW.trod (fun _ => ()) Tryd.prog w 0 (fun _ => true) false fuel 138 cs = some (.agg (marksL.map fun r => .lit (.string r)), p)) (j : Nat) (hj : j < 11) : cs[j]? = some (.string ⟨(marksL.getD j []).toArray⟩) := by
  obtain ⟨m, d, p', hd, h2⟩ := arr_at Tryd.underlying138 h j hj
  rw [List.getElem?_map, mark_get j hj] at hd
  simp only [Option.map_some, Option.some.injEq] at hd
  subst hd
  have := str_one h2
  rw [cells9, Nat.mul_one] at this
  exact this
theorem mk_val (j : Nat) (hj : j < 11) : marksV.getD j undef = .string ⟨(marksL.getD j []).toArray⟩ := by
  have h : j = 0 ∨ j = 1 ∨ j = 2 ∨ j = 3 ∨ j = 4 ∨ j = 5 ∨ j = 6 ∨ j = 7 ∨ j = 8 ∨ j = 9 ∨ j = 10 := by omega
  rcases h with rfl | rfl | rfl | rfl | rfl | rfl | rfl | rfl | rfl | rfl | rfl <;> rfl
theorem form_cells {w : World} {fuel : Nat} {cs : List Value} {p : List MemPlace} (h : DataW.trod (fun _ => ()) Tryd.prog w 0 (fun _ => true) false fuel 111 cs = some (.agg ((List.range 15).map fun j => .agg [.lit (.int .i64 (frm j).d), .lit (.int .i64 (frm j).a), .lit (.int .i64 (frm j).b), .lit (.int .i64 (frm j).c), .lit (.bool (frm j).g)]), p)) (j : Nat) (hj : j < 15) :
    cs[j * 5]? = some (.int .i64 (frm j).d) ∧ cs[j * 5 + 1]? = some (.int .i64 (frm j).a) ∧ cs[j * 5 + 2]? = some (.int .i64 (frm j).b) ∧ cs[j * 5 + 3]? = some (.int .i64 (frm j).c) ∧ cs[j * 5 + 4]? = some (.bool (frm j).g) := by
  obtain ⟨m, d, p', hd, h2⟩ := arr_at Tryd.underlying111 h j hj
  rw [List.getElem?_map, List.getElem?_range hj] at hd
  simp only [Option.map_some, Option.some.injEq] at hd
  rw [cells110] at h2
  subst hd
  obtain ⟨_, d0, _, e0, h0⟩ := str_at Tryd.underlying110 h2 0 _ rfl
  obtain ⟨_, d1, _, e1, h1⟩ := str_at Tryd.underlying110 h2 1 _ rfl
  obtain ⟨_, d2, _, e2, h3⟩ := str_at Tryd.underlying110 h2 2 _ rfl
  obtain ⟨_, d3, _, e3, h4⟩ := str_at Tryd.underlying110 h2 3 _ rfl
  obtain ⟨_, d4, _, e4, h5⟩ := str_at Tryd.underlying110 h2 4 _ rfl
  cases e0; cases e1; cases e2; cases e3; cases e4
  have z0 := int_sub Tryd.underlying3 cells3 h0
  have z1 := int_sub Tryd.underlying3 cells3 h1
  have z2 := int_sub Tryd.underlying3 cells3 h3
  have z3 := int_sub Tryd.underlying3 cells3 h4
  have z4 := bool_sub Tryd.underlying4 cells4 h5
  have y0 := sub_get (cs := cs) rfl 0 _ z0
  rw [Nat.add_zero] at y0
  exact ⟨y0, sub_get rfl 1 _ z1, sub_get rfl 2 _ z2, sub_get rfl 3 _ z3, sub_get rfl 4 _ z4⟩
abbrev laidF : List (String × DataW Unit) := [("bloomery/mid.marks", Rows.laid_bloomery_mid_marks), ("bloomery/mid.forms", Rows.laid_bloomery_mid_forms), ("bloomery/fold.forms", Rows.laid_bloomery_fold_forms)]
theorem gFf : Tryd.prog.globalNamed "bloomery/fold.forms" = some 2 := by kernel_rfl
theorem tFf : (Tryd.prog.globals[2]?).map (·.type) = some 146 := by kernel_rfl
theorem cells145 : Tryd.prog.cellsOf 145 = 5 := by kernel_rfl
theorem ffD : (Rows.laid_bloomery_fold_forms : DataW Unit) = .agg ((List.range 15).map fun j => .agg [.lit (.bool (ffm j).1), .lit (.bool (ffm j).2.1), .lit (.bool (ffm j).2.2.1), .lit (.bool (ffm j).2.2.2.1), .lit (.bool (ffm j).2.2.2.2)]) := by kernel_rfl
theorem ff_cells {w : World} {fuel : Nat} {cs : List Value} {p : List MemPlace} (h : DataW.trod (fun _ => ()) Tryd.prog w 0 (fun _ => true) false fuel 146 cs = some (.agg ((List.range 15).map fun j => .agg [.lit (.bool (ffm j).1), .lit (.bool (ffm j).2.1), .lit (.bool (ffm j).2.2.1), .lit (.bool (ffm j).2.2.2.1), .lit (.bool (ffm j).2.2.2.2)]), p)) (j : Nat) (hj : j < 15) :
    cs[j * 5]? = some (.bool (ffm j).1) ∧ cs[j * 5 + 1]? = some (.bool (ffm j).2.1) ∧ cs[j * 5 + 2]? = some (.bool (ffm j).2.2.1) ∧ cs[j * 5 + 3]? = some (.bool (ffm j).2.2.2.1) ∧ cs[j * 5 + 4]? = some (.bool (ffm j).2.2.2.2) := by
  obtain ⟨m, d, p', hd, h2⟩ := arr_at Tryd.underlying146 h j hj
  rw [List.getElem?_map, List.getElem?_range hj] at hd
  simp only [Option.map_some, Option.some.injEq] at hd
  rw [cells145] at h2
  subst hd
  obtain ⟨_, d0, _, e0, h0⟩ := str_at Tryd.underlying145 h2 0 _ rfl
  obtain ⟨_, d1, _, e1, h1⟩ := str_at Tryd.underlying145 h2 1 _ rfl
  obtain ⟨_, d2, _, e2, h3⟩ := str_at Tryd.underlying145 h2 2 _ rfl
  obtain ⟨_, d3, _, e3, h4⟩ := str_at Tryd.underlying145 h2 3 _ rfl
  obtain ⟨_, d4, _, e4, h5⟩ := str_at Tryd.underlying145 h2 4 _ rfl
  cases e0; cases e1; cases e2; cases e3; cases e4
  have z0 := bool_sub Tryd.underlying4 cells4 h0
  have z1 := bool_sub Tryd.underlying4 cells4 h1
  have z2 := bool_sub Tryd.underlying4 cells4 h3
  have z3 := bool_sub Tryd.underlying4 cells4 h4
  have z4 := bool_sub Tryd.underlying4 cells4 h5
  have y0 := sub_get (cs := cs) rfl 0 _ z0
  rw [Nat.add_zero] at y0
  exact ⟨y0, sub_get rfl 1 _ z1, sub_get rfl 2 _ z2, sub_get rfl 3 _ z3, sub_get rfl 4 _ z4⟩
set_option maxRecDepth 100000 in
theorem env_of {W : World} (hR : laidMetH Tryd.prog laidF W) : FfE W ∧ FmE W ∧ MkE W := by
  have h : laidMet Tryd.prog laidF W := by
    rw [MakeChecks.laidMetH_plain _ _ _ (by kernel_rfl)] at hR
    exact hR
  have h1 := h.filter (fun x => x.1 == "bloomery/mid.marks")
  rw [show laidF.filter (fun x => x.1 == "bloomery/mid.marks") = [("bloomery/mid.marks", Rows.laid_bloomery_mid_marks)] by kernel_rfl] at h1
  have h2 := h.filter (fun x => x.1 == "bloomery/mid.forms")
  rw [show laidF.filter (fun x => x.1 == "bloomery/mid.forms") = [("bloomery/mid.forms", Rows.laid_bloomery_mid_forms)] by kernel_rfl] at h2
  have h3 := h.filter (fun x => x.1 == "bloomery/fold.forms")
  rw [show laidF.filter (fun x => x.1 == "bloomery/fold.forms") = [("bloomery/fold.forms", Rows.laid_bloomery_fold_forms)] by kernel_rfl] at h3
  obtain ⟨_, ⟨g0, t0, cs0, f0, p0, q0, hg0, ht0, hv0, hd0, _, _⟩, _, _⟩ := h1
  obtain rfl := Option.some.inj (gMarks.symm.trans hg0)
  obtain rfl := Option.some.inj (tMarks.symm.trans ht0)
  rw [marksD] at hd0
  have c0 : ∀ i, W.cell? ⟨1, i, none⟩ = cs0.toList[i]? := fun i => by rw [World.var?_cell hg0 hv0 i]; simp
  obtain ⟨_, ⟨g1, t1, cs1, f1, p1, q1, hg1, ht1, hv1, hd1, _, _⟩, _, _⟩ := h2
  obtain rfl := Option.some.inj (gForms.symm.trans hg1)
  obtain rfl := Option.some.inj (tForms.symm.trans ht1)
  rw [formsD] at hd1
  have c1 : ∀ i, W.cell? ⟨0, i, none⟩ = cs1.toList[i]? := fun i => by rw [World.var?_cell hg1 hv1 i]; simp
  obtain ⟨_, ⟨g2, t2, cs2, f2, p2, q2, hg2, ht2, hv2, hd2, _, _⟩, _, _⟩ := h3
  obtain rfl := Option.some.inj (gFf.symm.trans hg2)
  obtain rfl := Option.some.inj (tFf.symm.trans ht2)
  rw [ffD] at hd2
  have c2 : ∀ i, W.cell? ⟨2, i, none⟩ = cs2.toList[i]? := fun i => by rw [World.var?_cell hg2 hv2 i]; simp
  refine ⟨fun j hj => ?_, fun j hj => ?_, fun j hj => ?_⟩
  · rw [c2, c2, c2, c2, c2]
    exact ff_cells hd2 j hj
  · rw [c1, c1, c1, c1, c1]
    exact form_cells hd1 j hj
  · rw [c0, mk_val j hj]
    exact mark_cells hd0 j hj
section
variable {H : Type} {enc : TypeId × Value → H} {W : World} {sp : Nat → Bool} {held : Bool}
set_option maxRecDepth 100000 in
theorem open_ints0 {v : Value} {d : DataW H} {p : List MemPlace} {r : Reach} {b0 : Nat} (hv : Value.okWide Tryd.prog W r b0 32 v) (h : DataW.Trod enc Tryd.prog W 0 sp held 32 v d p) : ∃ l, InW W v l ∧ ∀ x ∈ l, I64 x := by
  obtain ⟨q0, len0, c0, rfl⟩ := okWide_slice Tryd.underlying32 hv
  obtain ⟨fuel, hf⟩ := h
  obtain ⟨v', l, h1, q, c, h2, h3, h4, h5⟩ := open_ints32 Tryd.underlying32 Tryd.underlying3 cells3 hf
  simp [Value.cells] at h1
  subst h1
  refine ⟨l, ⟨q, c, h2, ?_⟩, h4⟩
  rcases h5 with h5 | ⟨g, o, e, h5⟩
  · exact .inl h5
  · by_cases hn : l = []
    · exact .inl hn
    · have hl : 0 < l.length := by
        rcases Nat.eq_zero_or_pos l.length with h0 | h0
        · exact absurd (List.length_eq_zero_iff.1 h0) hn
        · exact h0
      exact .inr ⟨g, o, e, cell_lt (h5 0 l[0] (List.getElem?_eq_getElem hl)), h3, h5⟩
end
end Mid
end Go.Proofs.YtjmbjpimabnohaaDoor
namespace Go.Proofs.YtjmbjpimabnohaaDoor
set_option linter.unusedVariables false
open Go Go.Deep Go.ChangeShapes Go.WideShapes Go.ChangeAt Go.WideMaps Go.WideElems Go.RowKit Go.ChangeMaps
open Mid
def StraightAny : Prop := ∀ (w : World) (v0 v1 v2 : Value) (L0 L1 L2 : List Int), InW w v0 L0 → (∀ x ∈ L0, I64 x) → InW w v1 L1 → InW w v2 L2 → FfE w → FmE w → MkE w → Calls Tryd.prog 4 #[v0, v1, v2] w (fun e w' => e = .returned (.bool true) ∧ Below w.heap.size w w')
set_option maxRecDepth 100000 in
theorem foldStraight_lifted (hs : StraightAny) (os : Os) (started : os.Started) (H : Type) (enc : TypeId × Value → H) :
    ReturnsInHanded {} Tryd.checked os 4 .any (fun w args => (Rows.foldStraightSpec.pre enc Tryd.prog Tryd.f4 [] false w args ∧ laidMetH Tryd.prog laidF w) ∧ sizedMet enc Tryd.prog Tryd.f4 (OpenSpec.ofChange Rows.foldStraightSpec) false w args)
      (Rows.foldStraightSpec.post enc Tryd.prog Tryd.f4 false true false false) := by
  refine returnsInHanded_of_calls (C := Tryd.checked) own started (by kernel_rfl)
    (ChangeSpec.witness_shaped (enc := enc) (C := Tryd.checked) (os := os) (X := fun w _ => laidMetH Tryd.prog laidF w) false (World.laidAll Tryd.prog os laidF) #[.slice none 0 0, .slice none 0 0, .slice none 0 0] 8 (World.laidAll_os _ _ _)
      (World.shaped_of_ZipB (by kernel_rfl) (by kernel_rfl)) (by kernel_rfl) (by kernel_rfl) (by kernel_rfl)
      (by rw [MakeChecks.laidMetH_plain _ _ _ (by kernel_rfl)]; exact laidMet_laidAll _ (by kernel_rfl) (by kernel_rfl))) ?_
  intro w tape i _ hsh _ hok hpre _
  obtain ⟨_, _, _, fn', hfn', _, _, _, _, hval0⟩ := hok
  obtain rfl : fn' = Tryd.f4 := Option.some.inj (hfn'.symm.trans Tryd.func4)
  obtain ⟨⟨⟨ds, gs, before, hw0, hc⟩, hx⟩, hz⟩ := hpre
  have hW := DataW.Whole.of_heap (w' := w.forCall tape i) (by rfl) hw0
  have hL : laidMetH Tryd.prog laidF (w.forCall tape i) := hx.of_heap (by rfl)
  obtain ⟨W, hWe⟩ : ∃ W, w.forCall tape i = W := ⟨_, rfl⟩
  rw [hWe] at hsh hval0 hW hL ⊢
  obtain ⟨args, ha⟩ : ∃ args, i.args = args := ⟨_, rfl⟩
  rw [ha] at hval0 hW ⊢
  clear hWe ha hx hz hw0 hc
  have hval : ∀ (j : Nat) t v, Tryd.f4.params[j]? = some t → args[j]? = some v → Value.okWide Tryd.prog W .any w.heap.size t v := hval0
  have hW' := hW
  obtain ⟨p, q, hA0, hV, rfl, hfz, hnd⟩ := hW
  have hA : DataW.TrodAll enc Tryd.prog W 0 (fun _ => true) true Tryd.f4.params.toList args.toList ds p := hA0
  rw [Tryd.params4] at hA hval
  obtain ⟨v0, vs0, d0, ds0, p0, q0, hargs, rfl, rfl, h0, r0⟩ := trodAll_cons hA
  obtain ⟨v1, vs1, d1, ds1, p1, q1, rfl, rfl, rfl, h1, r1⟩ := trodAll_cons r0
  obtain ⟨v2, vs2, d2, ds2, p2, q2, rfl, rfl, rfl, h2, r2⟩ := trodAll_cons r1
  obtain ⟨rfl, rfl, rfl⟩ := trodAll_nil r2
  obtain rfl : args = #[v0, v1, v2] := by cases args; simp_all
  obtain ⟨rfl, rfl⟩ := trodVars_none hV
  have lt0 : ∀ x ∈ p0, x.block < W.heap.size := by obtain ⟨m, hm⟩ := h0; exact DataW.trod_lt m _ _ _ hm
  have k0 := h0
  have lt1 : ∀ x ∈ p1, x.block < W.heap.size := by obtain ⟨m, hm⟩ := h1; exact DataW.trod_lt m _ _ _ hm
  have k1 := h1
  have lt2 : ∀ x ∈ p2, x.block < W.heap.size := by obtain ⟨m, hm⟩ := h2; exact DataW.trod_lt m _ _ _ hm
  have k2 := h2
  obtain ⟨L0, hL0, hL0i⟩ := open_nums (hval 0 23 v0 rfl rfl) h0
  obtain ⟨L1, hL1, _⟩ := open_ints0 (hval 1 32 v1 rfl rfl) h1
  obtain ⟨L2, hL2, _⟩ := open_ints0 (hval 2 32 v2 rfl rfl) h2
  obtain ⟨e1, e2, e3⟩ := env_of hL
  have hmain := hs W v0 v1 v2 L0 L1 L2 hL0 hL0i hL1 hL2 e1 e2 e3
  refine hmain.mono fun e W' ⟨he, bel⟩ => ?_
  subst he
  refine ChangeSpec.post_blind ?_
  exact ⟨_, _, _, [], _, [], hW', trodAll_mk1 (shut_bool Tryd.underlying4 _), (trodAll_cons_mk (Below.trod laidOut (by kernel_rfl) (of_decide_eq_true (by kernel_rfl)) k0 bel lt0) (trodAll_cons_mk (Below.trod laidOut (by kernel_rfl) (of_decide_eq_true (by kernel_rfl)) k1 bel lt1) (trodAll_cons_mk (Below.trod laidOut (by kernel_rfl) (of_decide_eq_true (by kernel_rfl)) k2 bel lt2) trodAll_mk0))), rfl, bel.frame _, fun h => by cases h⟩
theorem foldStraight_row (hs : StraightAny) : Rows.FoldStraightSaid :=
  OpenClaim.holds_of_wide 4 Tryd.f4 rfl rfl rfl rfl rfl rfl rfl ⟨rfl, rfl, rfl, rfl, rfl⟩ rfl rfl rfl rfl rfl (by kernel_rfl) Tryd.func4 (by kernel_rfl)
    (of_decide_eq_true (by kernel_rfl)) (by unfold Func.isWrapper; first | (rw [if_pos (by decide +kernel)]; kernel_rfl) | (rw [if_neg (by decide +kernel)]; exact ⟨rfl, rfl⟩))
    (fun os started H enc _ => foldStraight_lifted hs os started H enc)
theorem foldStraight_holds_of (hs : StraightAny) : Rows.FoldStraightCardSaid :=
  Claim7.holds_tied_plain_at .later [] [.data, .data, .data] true (true, "1b8fb4b90e5e5233e346669a8f704d82fc948e2aefdbc466756eedc3a0879416") true
    (foldStraight_row hs) (fun _ h => by cases h) (by kernel_rfl) (fun _ h => by cases h) foldStraight_row_tie rfl ⟨rfl, rfl⟩ (by kernel_rfl) rfl
    (fun f fn hf hfn => by
      obtain rfl : f = 4 := Option.some.inj ((show Tryd.prog.funcNamed "bloomery/bloomerykeep.FoldStraight" = some 4 by kernel_rfl).symm.trans hf) |>.symm
      obtain rfl : fn = Tryd.f4 := (Option.some.inj (Tryd.func4.symm.trans hfn)).symm
      exact ⟨by kernel_rfl, fun j t ht => by
        rw [Tryd.params4] at ht
        have hm : t ∈ [23, 32, 32] := by simpa using Array.mem_of_getElem? ht
        have hall : ([23, 32, 32].all fun u => !Tryd.prog.wantsStandIn u) = true := by kernel_rfl
        exact (show Tryd.prog.wantsStandIn t = false by simpa using List.all_eq_true.1 hall t hm)⟩)
    (by kernel_rfl)
end Go.Proofs.YtjmbjpimabnohaaDoor
namespace Go.Proofs.YtjmbjpimabnohaaDoor.Mid
set_option linter.unusedVariables false
set_option linter.unusedSimpArgs false
open Go Go.RowKit
def BlP (w : World) (e : Ending) (w' : World) : Prop := e = .returned (.tuple #[]) ∧ Below w.heap.size w w'
structure L83 (w : World) (ob fb nt : Nat) (tq : Option Addr) (tc sb o : Nat) (s : Ms) : Prop where
  ok : w.heap[ob]? = some (.cells #[.bool true] 4)
  fn : w.cell? ⟨fb, 2, none⟩ = some (.slice tq nt tc)
  c0 : w.cell? ⟨sb, o, none⟩ = some (.int .i64 s.code)
  c1 : w.cell? ⟨sb, o + 1, none⟩ = some (.int .i64 s.dst)
  c2 : w.cell? ⟨sb, o + 2, none⟩ = some (.int .i64 s.a)
  c3 : w.cell? ⟨sb, o + 3, none⟩ = some (.int .i64 s.b)
theorem L83.below {w w' : World} {ob fb nt : Nat} {tq : Option Addr} {tc sb o : Nat} {s : Ms} (h : L83 w ob fb nt tq tc sb o s) (hb : Below w.heap.size w w') : L83 w' ob fb nt tq tc sb o s := by
  have kp : ∀ (b o : Nat) (v : Value), w.cell? ⟨b, o, none⟩ = some v → w'.cell? ⟨b, o, none⟩ = some v := fun b o v hv => by rw [hb.cell (p := ⟨b, o, none⟩) (cell_lt hv)]; exact hv
  exact ⟨by rw [hb.block ob (Array.getElem?_eq_some_iff.1 h.ok).1]; exact h.ok, kp _ _ _ h.fn, kp _ _ _ h.c0, kp _ _ _ h.c1, kp _ _ _ h.c2, kp _ _ _ h.c3⟩
abbrev look83V (ob fb : Nat) : Value := .func (.func 83) #[] #[ptr ob, ptr fb]
set_option maxRecDepth 100000 in
set_option maxHeartbeats 4000000 in
theorem reads83 (w : World) (ob fb nt : Nat) (tq : Option Addr) (tc sb o : Nat) (s : Ms) (h : L83 w ob fb nt tq tc sb o s) (hff : FfE w) (hs : Strt nt s) : Calls Tryd.prog 84 #[.pointer (some ⟨sb, o, none⟩), look83V ob fb] w (BlP w) := by
  have HL : Hid (∀ W, Below w.heap.size w W → L83 W ob fb nt tq tc sb o s) := fun W hb => h.below hb
  have HS : Hid (Strt nt s) := hs
  have HA : Hid (∀ W, Below w.heap.size w W → s.code ≠ 1 → Calls Tryd.prog 83 #[.pointer (some ⟨sb, o + 2, none⟩), ptr ob, ptr fb] W (fun e w' => e = .returned (.tuple #[]) ∧ Sm0 W w')) := fun W hb hc => by
    have h9 := h.below hb
    exact look83 W sb (o + 2) ob fb nt s.a tq tc h9.ok h9.c2 h9.fn (hs.a hc)
  have HB : Hid (∀ W, Below w.heap.size w W → s.code = 3 → Calls Tryd.prog 83 #[.pointer (some ⟨sb, o + 3, none⟩), ptr ob, ptr fb] W (fun e w' => e = .returned (.tuple #[]) ∧ Sm0 W w')) := fun W hb hc => by
    have h9 := h.below hb
    exact look83 W sb (o + 3) ob fb nt s.b tq tc h9.ok h9.c3 h9.fn (hs.b hc)
  have HG : Hid (∀ W, Below w.heap.size w W → BlP w (.returned (.tuple #[])) W) := fun W hb => ⟨rfl, hb⟩
  have HF : Hid (FfE w) := hff
  have hc0 := h.c0
  generalize BlP w = G at HG ⊢
  clear h hff
  rcases hs.code with hc | hc | hc | hc
  · obtain ⟨g0, g1, g2, g3, g4⟩ := HF.out 1 (by omega)
    rw [hc] at hc0
    obtain ⟨A, hA⟩ : ∃ A : Obj, A = .cells #[.bool false, .bool false, .bool false, .bool true, .bool true] 145 := ⟨_, rfl⟩
    have HBA : Hid (Below w.heap.size w (w.alloc A)) := al_bel _ _
    have hc1 : (w.alloc A).cell? ⟨sb, o, none⟩ = some (.int .i64 1) := cell_old hc0
    simp only [ffm] at g0 g1 g2 g3 g4
    have HA9 : Hid (A = .cells #[.bool false, .bool false, .bool false, .bool true, .bool true] 145) := hA
    rw [hA] at hc1
    clear hc hs
    go_enter Tryd.func84, Tryd.ntmps84
    go_wp2
    go_end0
    rw [← hA]
    exact HG.out _ HBA.out
  · obtain ⟨g0, g1, g2, g3, g4⟩ := HF.out 2 (by omega)
    rw [hc] at hc0
    obtain ⟨A, hA⟩ : ∃ A : Obj, A = .cells #[.bool true, .bool false, .bool false, .bool true, .bool true] 145 := ⟨_, rfl⟩
    have HBA : Hid (Below w.heap.size w (w.alloc A)) := al_bel _ _
    have hc1 : (w.alloc A).cell? ⟨sb, o, none⟩ = some (.int .i64 2) := cell_old hc0
    simp only [ffm] at g0 g1 g2 g3 g4
    have HA1 : Hid (Calls Tryd.prog 83 #[.pointer (some ⟨sb, o + 2, none⟩), ptr ob, ptr fb] (w.alloc A) (fun e w' => e = .returned (.tuple #[]) ∧ Sm0 (w.alloc A) w')) := HA.out _ HBA.out (by omega)
    have hbA : (w.alloc A).heap[w.heap.size]? = some (.cells #[.bool true, .bool false, .bool false, .bool true, .bool true] 145) := by rw [← hA]; exact heap_alloc_last _ _
    have HbA : Hid ((w.alloc A).heap[w.heap.size]? = some (.cells #[.bool true, .bool false, .bool false, .bool true, .bool true] 145)) := hbA
    have HC1 : Hid ((w.alloc A).cell? ⟨sb, o, none⟩ = some (.int .i64 2)) := hc1
    clear hbA
    have HA9 : Hid (A = .cells #[.bool true, .bool false, .bool false, .bool true, .bool true] 145) := hA
    rw [hA] at hc1 HA1
    clear hc hs
    go_enter Tryd.func84, Tryd.ntmps84
    go_wp2_with (go_at_call 83; fail)
    refine HA1.out.mono ?_
    rintro e w2 ⟨rfl, hm⟩
    rw [← hA] at hm
    clear hA hc1 g0 g1 g2 g3 g4 hc0
    have HM : Hid (Sm0 (w.alloc A) w2) := hm
    have hb2 : w2.heap[w.heap.size]? = some (.cells #[.bool true, .bool false, .bool false, .bool true, .bool true] 145) := by rw [hm.heap]; exact HbA.out
    have x0 := cell_at (i := 0) hb2 rfl
    have x1 := cell_at (i := 1) hb2 rfl
    have x2 := cell_at (i := 2) hb2 rfl
    have y0 : w2.cell? ⟨sb, o, none⟩ = some (.int .i64 2) := by rw [hm.cell]; exact HC1.out
    have HB2 : Hid (Below w.heap.size w w2) := HBA.out.trans (hm.bel _)
    clear hm hb2
    go_wp2
    go_end0
    exact HG.out _ HB2.out
  · obtain ⟨g0, g1, g2, g3, g4⟩ := HF.out 3 (by omega)
    rw [hc] at hc0
    obtain ⟨A, hA⟩ : ∃ A : Obj, A = .cells #[.bool true, .bool true, .bool false, .bool true, .bool true] 145 := ⟨_, rfl⟩
    have HBA : Hid (Below w.heap.size w (w.alloc A)) := al_bel _ _
    have hc1 : (w.alloc A).cell? ⟨sb, o, none⟩ = some (.int .i64 3) := cell_old hc0
    simp only [ffm] at g0 g1 g2 g3 g4
    have HA1 : Hid (Calls Tryd.prog 83 #[.pointer (some ⟨sb, o + 2, none⟩), ptr ob, ptr fb] (w.alloc A) (fun e w' => e = .returned (.tuple #[]) ∧ Sm0 (w.alloc A) w')) := HA.out _ HBA.out (by omega)
    have hbA : (w.alloc A).heap[w.heap.size]? = some (.cells #[.bool true, .bool true, .bool false, .bool true, .bool true] 145) := by rw [← hA]; exact heap_alloc_last _ _
    have HbA : Hid ((w.alloc A).heap[w.heap.size]? = some (.cells #[.bool true, .bool true, .bool false, .bool true, .bool true] 145)) := hbA
    have HC1 : Hid ((w.alloc A).cell? ⟨sb, o, none⟩ = some (.int .i64 3)) := hc1
    clear hbA
    have HA9 : Hid (A = .cells #[.bool true, .bool true, .bool false, .bool true, .bool true] 145) := hA
    rw [hA] at hc1 HA1
    have HCd : Hid (s.code = 3) := hc
    clear hc hs
    go_enter Tryd.func84, Tryd.ntmps84
    go_wp2_with (go_at_call 83; fail)
    refine HA1.out.mono ?_
    rintro e w2 ⟨rfl, hm⟩
    rw [← hA] at hm
    clear hA hc1 g0 g1 g2 g3 g4 hc0
    have HM : Hid (Sm0 (w.alloc A) w2) := hm
    have hb2 : w2.heap[w.heap.size]? = some (.cells #[.bool true, .bool true, .bool false, .bool true, .bool true] 145) := by rw [hm.heap]; exact HbA.out
    have x0 := cell_at (i := 0) hb2 rfl
    have x1 := cell_at (i := 1) hb2 rfl
    have x2 := cell_at (i := 2) hb2 rfl
    have y0 : w2.cell? ⟨sb, o, none⟩ = some (.int .i64 3) := by rw [hm.cell]; exact HC1.out
    have HB2 : Hid (Below w.heap.size w w2) := HBA.out.trans (hm.bel _)
    have HB1 : Hid (Calls Tryd.prog 83 #[.pointer (some ⟨sb, o + 3, none⟩), ptr ob, ptr fb] w2 (fun e w' => e = .returned (.tuple #[]) ∧ Sm0 w2 w')) := HB.out _ HB2.out HCd.out
    have Hb2 : Hid (w2.heap[w.heap.size]? = some (.cells #[.bool true, .bool true, .bool false, .bool true, .bool true] 145)) := hb2
    have Hy0 : Hid (w2.cell? ⟨sb, o, none⟩ = some (.int .i64 3)) := y0
    clear hm hb2
    go_wp2_with (go_at_call 83; fail)
    refine HB1.out.mono ?_
    rintro e w3 ⟨rfl, hm⟩
    have hb3 : w3.heap[w.heap.size]? = some (.cells #[.bool true, .bool true, .bool false, .bool true, .bool true] 145) := by rw [hm.heap]; exact Hb2.out
    have u1 := cell_at (i := 1) hb3 rfl
    have u2 := cell_at (i := 2) hb3 rfl
    have v0 : w3.cell? ⟨sb, o, none⟩ = some (.int .i64 3) := by rw [hm.cell]; exact Hy0.out
    have HB3 : Hid (Below w.heap.size w w3) := HB2.out.trans (hm.bel _)
    clear hm hb3 x0 x1 x2 y0
    go_wp2
    go_end0
    exact HG.out _ HB3.out
  · obtain ⟨g0, g1, g2, g3, g4⟩ := HF.out 8 (by omega)
    rw [hc] at hc0
    obtain ⟨A, hA⟩ : ∃ A : Obj, A = .cells #[.bool true, .bool false, .bool false, .bool false, .bool false] 145 := ⟨_, rfl⟩
    have HBA : Hid (Below w.heap.size w (w.alloc A)) := al_bel _ _
    have hc1 : (w.alloc A).cell? ⟨sb, o, none⟩ = some (.int .i64 8) := cell_old hc0
    simp only [ffm] at g0 g1 g2 g3 g4
    have HA1 : Hid (Calls Tryd.prog 83 #[.pointer (some ⟨sb, o + 2, none⟩), ptr ob, ptr fb] (w.alloc A) (fun e w' => e = .returned (.tuple #[]) ∧ Sm0 (w.alloc A) w')) := HA.out _ HBA.out (by omega)
    have hbA : (w.alloc A).heap[w.heap.size]? = some (.cells #[.bool true, .bool false, .bool false, .bool false, .bool false] 145) := by rw [← hA]; exact heap_alloc_last _ _
    have HbA : Hid ((w.alloc A).heap[w.heap.size]? = some (.cells #[.bool true, .bool false, .bool false, .bool false, .bool false] 145)) := hbA
    have HC1 : Hid ((w.alloc A).cell? ⟨sb, o, none⟩ = some (.int .i64 8)) := hc1
    clear hbA
    have HA9 : Hid (A = .cells #[.bool true, .bool false, .bool false, .bool false, .bool false] 145) := hA
    rw [hA] at hc1 HA1
    clear hc hs
    go_enter Tryd.func84, Tryd.ntmps84
    go_wp2_with (go_at_call 83; fail)
    refine HA1.out.mono ?_
    rintro e w2 ⟨rfl, hm⟩
    rw [← hA] at hm
    clear hA hc1 g0 g1 g2 g3 g4 hc0
    have HM : Hid (Sm0 (w.alloc A) w2) := hm
    have hb2 : w2.heap[w.heap.size]? = some (.cells #[.bool true, .bool false, .bool false, .bool false, .bool false] 145) := by rw [hm.heap]; exact HbA.out
    have x0 := cell_at (i := 0) hb2 rfl
    have x1 := cell_at (i := 1) hb2 rfl
    have x2 := cell_at (i := 2) hb2 rfl
    have y0 : w2.cell? ⟨sb, o, none⟩ = some (.int .i64 8) := by rw [hm.cell]; exact HC1.out
    have HB2 : Hid (Below w.heap.size w w2) := HBA.out.trans (hm.bel _)
    clear hm hb2
    go_wp2
    go_end0
    exact HG.out _ HB2.out
end Go.Proofs.YtjmbjpimabnohaaDoor.Mid
