/- MachineDoes is true at every three lists and two numbers, and leaves its arguments as they were, in whatever memory holds the two tables of package word and errors' own type handle as the program lays them: the row, and its tied card. -/
import Derived.Test.YtaodcpdkobhmfaaDoorP0
import Derived.Test.YtaodcpdkobhmfaaDoorTB
import Derived.Test.YtaodcpdkobhmfaaDoorTie
import Derived.Test.YtaodcpdkobhmfaaDoorCards
import Derived.SevenTiedAt
import Derived.ChangeSlices
import Derived.LaidHandle
import Derived.LaidSub
namespace Go.Proofs.YtaodcpdkobhmfaaDoor
open Go Go.ChangeShapes Go.WideShapes Go.ChangeAt Go.WideMaps Go.WideElems Go.RowKit

theorem cells54d : Tryd.prog.cellsOf 54 = 1 := by kernel_rfl
theorem cells2d : Tryd.prog.cellsOf 2 = 1 := by kernel_rfl

theorem spot_none' {w : World} {a : Addr} {v : Value} (h : w.cell? a = some v) : a.spot = none := by
  unfold World.cell? at h
  split at h
  · cases hs : a.spot with
    | none => rfl
    | some x => simp [hs] at h
  · cases h

theorem add_at' (g o j : Nat) : (⟨g, o, none⟩ : Addr).add j = ⟨g, o + j, none⟩ := by unfold Addr.add; split <;> simp_all

theorem u32_wf' {x : Int} (h : (Lit.int .u32 x).wf = true) : 0 ≤ x ∧ x < 4294967296 := by
  simp only [Lit.wf, IntKind.min, IntKind.max, IntKind.signed, IntKind.bits, Bool.and_eq_true] at h
  simp at h
  omega

theorem take_getD' (zs : List Int) (n j : Nat) (hj : j < n) : (zs.take n).getD j 0 = zs.getD j 0 := by
  rw [List.getD_eq_getElem?_getD, List.getD_eq_getElem?_getD, List.getElem?_take_of_lt hj]

section
variable {H : Type} {enc : TypeId × Value → H} {W : World} {base : Nat} {v : Value} {dt : DataW H} {p : List MemPlace} {r : Reach} {b0 : Nat} {sp : Nat → Bool}

/-- Five parameters. -/
theorem trodAll_five {spare : Nat → Bool} {held : Bool} {P : Program} {w : World} {t0 t1 t2 t3 t4 : TypeId} {args : Array Value} {ds : List (DataW H)} {ps : List MemPlace} (h : DataW.TrodAll enc P w base spare held [t0, t1, t2, t3, t4] args.toList ds ps) :
    ∃ v0 v1 v2 v3 v4 d0 d1 d2 d3 d4 p0 p1 p2 p3 p4, args = #[v0, v1, v2, v3, v4] ∧ ds = [d0, d1, d2, d3, d4] ∧ ps = p0 ++ p1 ++ p2 ++ p3 ++ p4 ∧ DataW.Trod enc P w base spare held t0 v0 d0 p0 ∧ DataW.Trod enc P w base spare held t1 v1 d1 p1 ∧ DataW.Trod enc P w base spare held t2 v2 d2 p2 ∧ DataW.Trod enc P w base spare held t3 v3 d3 p3 ∧ DataW.Trod enc P w base spare held t4 v4 d4 p4 := by
  obtain ⟨v0, r0, d0, e0, p0, q0, hargs, rfl, rfl, h0, g0⟩ := trodAll_cons h
  obtain ⟨v1, r1, d1, e1, p1, q1, rfl, rfl, rfl, h1, g1⟩ := trodAll_cons g0
  obtain ⟨v2, r2, d2, e2, p2, q2, rfl, rfl, rfl, h2, g2⟩ := trodAll_cons g1
  obtain ⟨v3, r3, d3, e3, p3, q3, rfl, rfl, rfl, h3, g3⟩ := trodAll_cons g2
  obtain ⟨v4, r4, d4, e4, p4, q4, rfl, rfl, rfl, h4, g4⟩ := trodAll_cons g3
  obtain ⟨rfl, rfl, rfl⟩ := trodAll_nil g4
  exact ⟨v0, v1, v2, v3, v4, d0, d1, d2, d3, d4, p0, p1, p2, p3, p4, by cases args; simp_all, rfl, by simp, h0, h1, h2, h3, h4⟩

set_option maxRecDepth 100000 in
theorem open_words' (hv : Value.okWide Tryd.prog W r b0 22 v) (h : DataW.Trod enc Tryd.prog W base sp true 22 v dt p) : ∃ q c ws, v = .slice q ws.length c ∧ WV W v ws := by
  obtain ⟨q, len, c, rfl⟩ := okWide_slice Tryd.underlying22 hv
  obtain ⟨fuel, hf⟩ := h
  rcases open_ints Tryd.underlying22 Tryd.underlying54 cells54d hf with ⟨hcs, hx⟩ | ⟨a, len', cap', zs, hcs, _, hl, hm, hz, hx, hcell, hwz⟩
  · simp [Value.cells] at hcs
    obtain ⟨rfl, rfl, rfl⟩ := hcs
    exact ⟨none, 0, [], rfl, none, 0, rfl, fun h => absurd rfl h⟩
  · simp [Value.cells] at hcs
    obtain ⟨rfl, rfl, rfl⟩ := hcs
    have hzl : len ≤ zs.length := by rw [hz]; split <;> omega
    have htl : (zs.take len).length = len := by simp; omega
    refine ⟨some a, c, zs.take len, by rw [htl], some a, c, by rw [htl], fun hn => ?_⟩
    have hlen : 0 < len := by
      rcases Nat.eq_zero_or_pos len with h0 | h0
      · subst h0; simp at hn
      · exact h0
    have h0 := hcell 0 (by omega)
    have ha0 : a.add 0 = a := by unfold Addr.add; rw [if_pos rfl]
    rw [ha0] at h0
    obtain ⟨g, o, sp'⟩ := a
    have hsp : sp' = none := spot_none' h0
    subst hsp
    refine ⟨g, o, rfl, by rw [htl]; exact hl, fun j hj => ?_, fun j hj => ?_⟩
    · rw [htl] at hj
      have := hcell j (by omega)
      rw [add_at'] at this
      rw [take_getD' zs len j hj]
      exact this
    · rw [htl] at hj
      rw [take_getD' zs len j hj]
      have hm' : zs.getD j 0 ∈ zs := by
        rw [List.getD_eq_getElem?_getD, List.getElem?_eq_getElem (by omega)]
        exact List.getElem_mem _
      exact u32_wf' (hwz _ hm')

set_option maxRecDepth 100000 in
theorem open_nums (hv : Value.okWide Tryd.prog W r b0 23 v) (h : DataW.Trod enc Tryd.prog W base sp true 23 v dt p) : ∃ q c G, v = .slice q G.length c ∧ Src W v G ∧ Rd W v G ∧ ∀ x ∈ G, I64 x := by
  obtain ⟨q, len, c, rfl⟩ := okWide_slice Tryd.underlying23 hv
  obtain ⟨fuel, hf⟩ := h
  rcases open_ints Tryd.underlying23 Tryd.underlying2 cells2d hf with ⟨hcs, hx⟩ | ⟨a, len', cap', zs, hcs, _, hl, hm, hz, hx, hcell, hwz⟩
  · simp [Value.cells] at hcs
    obtain ⟨rfl, rfl, rfl⟩ := hcs
    exact ⟨none, 0, [], rfl, .inl ⟨rfl, rfl⟩, ⟨none, 0, rfl, fun h => absurd rfl h⟩, fun x hx => by simp at hx⟩
  · simp [Value.cells] at hcs
    obtain ⟨rfl, rfl, rfl⟩ := hcs
    have hzl : len ≤ zs.length := by rw [hz]; split <;> omega
    have htl : (zs.take len).length = len := by simp; omega
    refine ⟨some a, c, zs.take len, by rw [htl], .inr ⟨a, c, by rw [htl], fun j u hu => ?_⟩, ⟨some a, c, by rw [htl], fun hn => ?_⟩, fun x hx => i64_range (hwz x (List.mem_of_mem_take hx))⟩
    · have hj : j < len := by
        have := (List.getElem?_eq_some_iff.1 hu).1
        simp [outL] at this
        omega
      have h1 := hcell j (by omega)
      have h2 : (outL (zs.take len))[j]? = some (.int .i64 (zs.getD j 0)) := by
        rw [← take_getD' zs len j hj]
        simp only [outL, List.getElem?_map]
        rw [List.getD_eq_getElem?_getD, List.getElem?_eq_getElem (by omega)]
        rfl
      rw [h2] at hu
      rw [← Option.some.inj hu]
      exact h1
    · have hlen : 0 < len := by
        rcases Nat.eq_zero_or_pos len with h0 | h0
        · subst h0; simp at hn
        · exact h0
      have h0 := hcell 0 (by omega)
      have ha0 : a.add 0 = a := by unfold Addr.add; rw [if_pos rfl]
      rw [ha0] at h0
      obtain ⟨g, o, sp'⟩ := a
      have hsp : sp' = none := spot_none' h0
      subst hsp
      refine ⟨g, o, rfl, fun j hj => ?_⟩
      rw [htl] at hj
      have := hcell j (by omega)
      rw [add_at'] at this
      rw [take_getD' zs len j hj]
      exact this
end

abbrev laid3 : List (String × DataW Unit) := [("errors.errorType", Rows.laid_errors_errorType), ("bloomery/word.forms", Rows.laid_bloomery_word_forms), ("bloomery/word.shapes", Rows.laid_bloomery_word_shapes)]

theorem et : Tryd.prog.globalNamed "errors.errorType" = some 2 := by kernel_rfl
theorem rt : (Tryd.prog.cutTypes.find? (·.1 == "internal/reflectlite.rtype")).map (·.2) = some 151 := by kernel_rfl
theorem tsize : Tryd.prog.types.size = 195 := by kernel_rfl
theorem oneRow : ((List.range 195).filter fun t => Tryd.prog.rowNamed t [101, 114, 114, 111, 114]) = [30] := by kernel_rfl

/-- What the condition gives a walk: the tables, and the handle's one cell. -/
theorem tabs_of_laid3 {W : World} (h : laidMetH Tryd.prog laid3 W) : Tabs T W := tabs_of_laid (laidMetH_iff.1 h).1
theorem errT_of_laid3 {W : World} (h : laidMetH Tryd.prog laid3 W) : ErrT W := by
  obtain ⟨name, u, ty, e1, e2, e3, e4, e5⟩ := (laidMetH_iff.1 h).2 _ (List.mem_singleton.2 rfl)
  have en : name = [101, 114, 114, 111, 114] := (Option.some.inj e1).symm
  subst en
  obtain rfl := Option.some.inj (rt.symm.trans e2)
  have hm : ty ∈ (List.range 195).filter fun t => Tryd.prog.rowNamed t [101, 114, 114, 111, 114] := List.mem_filter.2 ⟨List.mem_range.2 (by rw [← tsize]; exact e3), e4⟩
  rw [oneRow] at hm
  obtain rfl := List.mem_singleton.1 hm
  have hh : typeHandle Tryd.prog 30 = .pointer (some ⟨4, 30, none⟩) := by kernel_rfl
  rw [hh] at e5
  simpa using World.var?_cell et e5 0

/-- The door's own heap meets the condition. -/
theorem door_met3 (os : Os) (args : Array Value) : laidMetH Tryd.prog laid3 ((World.doorLaid Tryd.prog 84 os).forCall (fun _ _ => 0) ⟨#[], args, []⟩).memory :=
  laidMetH_of_parts3 (fuel := 8) (laidMet_of_run' 8 (by kernel_rfl) (by kernel_rfl)) (by kernel_rfl) (by kernel_rfl)

theorem does_all (W : World) (v0 v2 v4 : Value) (ws G A : List Int) (y x : Int) (ht : Tabs T W) (he : ErrT W) (q r t : Option Addr) (c d e : Nat) (h0 : v0 = .slice q ws.length c) (h2 : v2 = .slice r G.length d) (h4 : v4 = .slice t A.length e) (hws : WV W v0 ws) (hG : Src W v2 G) (hGr : ∀ x ∈ G, I64 x) (hA : Rd W v4 A) :
    Calls Tryd.prog 3 #[v0, .int .i64 y, v2, .int .i64 x, v4] W fun ev W' => ev = .returned (.bool true) ∧ Below W.heap.size W W' := by
  by_cases hl : ws.length ≤ 60 ∧ G.length ≤ 20 ∧ A.length ≤ 20
  · obtain ⟨l1, l2, l3⟩ := hl
    have hX : 2 < W.heap.size := by
      rcases Nat.lt_or_ge 2 W.heap.size with h | h
      · exact h
      · have hg0 : W.cell? ⟨2, 0, none⟩ = some (.iface 151 (.agg #[.pointer (some ⟨4, 30, none⟩)])) := he
        simp [World.cell?, Array.getElem?_eq_none h] at hg0
    by_cases hr : y < 8 ∨ 65536 < y ∨ ¬ y % 8 = 0
    · rw [h0, h2, h4]
      rw [h2] at hG
      exact does_none W q r t ws.length c d A.length e y x 2 G l1 l2 l3 hG he (by omega) (fun w iv => newdoc_range w _ iv y hr) (fun w iv => new_range w _ iv y hr)
    · obtain ⟨L, rfl⟩ := Int.eq_ofNat_of_zero_le (show 0 ≤ y by omega)
      have b0 : 8 ≤ L := by omega
      have b1 : L ≤ 65536 := by omega
      have b2 : (L : Int) % 8 = 0 := by omega
      by_cases hm : L < 4 * ws.length
      · rw [h0, h2, h4]
        rw [h2] at hG
        exact does_none W q r t ws.length c d A.length e L x 4 G l1 l2 l3 hG he (by omega) (fun w iv => newdoc_limit w q ws.length c L iv b0 b1 b2 hm l1) (fun w iv => new_limit w q ws.length c L iv b0 b1 b2 hm l1)
      · rw [h2] at hG
        rw [h4] at hA
        have := does_fine W v0 q r t c d e L x ws G A l1 l2 l3 h0 hws hG hGr hA he ht hX b0 b1 b2 (by omega)
        rw [← h0, ← h2, ← h4] at this
        exact this
  · rw [h0, h2, h4]
    exact does_long W q r t ws.length c G.length d A.length e y x (by omega)

set_option maxRecDepth 100000 in
theorem does_lifted (os : Os) (started : os.Started) (H : Type) (enc : TypeId × Value → H) :
    ReturnsInHanded {} Tryd.checked os 3 .any (fun w args => (Rows.machineDoesSpec.pre enc Tryd.prog Tryd.f3 [] false w args ∧ laidMetH Tryd.prog laid3 w) ∧ sizedMet enc Tryd.prog Tryd.f3 (OpenSpec.ofChange Rows.machineDoesSpec) false w args)
      (Rows.machineDoesSpec.post enc Tryd.prog Tryd.f3 false true false false) := by
  refine returnsInHanded_of_change_and (C := Tryd.checked) (X := fun w _ => laidMetH Tryd.prog laid3 w) (fun _ _ _ hh h => h.of_heap hh) own started (by kernel_rfl) Tryd.func3
    (ChangeSpec.witness_shaped (enc := enc) (C := Tryd.checked) (os := os) (X := fun w _ => laidMetH Tryd.prog laid3 w) false (World.doorLaid Tryd.prog 84 os) #[.slice none 0 0, .int .i64 0, .slice none 0 0, .int .i64 0, .slice none 0 0] 8 rfl (World.shaped_of_RefB (by kernel_rfl) (by kernel_rfl)) (by kernel_rfl) (by kernel_rfl) (by kernel_rfl) (door_met3 os _)) ?_
  intro W base args ds gs before hval0 hW _ _ hL _
  have hval : ∀ (j : Nat) t v, Tryd.f3.params[j]? = some t → args[j]? = some v → Value.okWide Tryd.prog W .any base t v := hval0
  have hW' := hW
  obtain ⟨p, q, hA0, hV, rfl, hfz, hnd⟩ := hW
  have hA : DataW.TrodAll enc Tryd.prog W 0 (fun _ => true) true Tryd.f3.params.toList args.toList ds p := hA0
  rw [Tryd.params3] at hA hval
  obtain ⟨v0, v1, v2, v3, v4, d0, d1, d2, d3, d4, p0, p1, p2, p3, p4, rfl, rfl, rfl, h0, h1, h2, h3, h4⟩ := trodAll_five hA
  obtain ⟨rfl, rfl⟩ := trodVars_none hV
  have lt0 : ∀ x ∈ p0, x.block < W.heap.size := by obtain ⟨m, hm⟩ := h0; exact DataW.trod_lt m _ _ _ hm
  have lt2 : ∀ x ∈ p2, x.block < W.heap.size := by obtain ⟨m, hm⟩ := h2; exact DataW.trod_lt m _ _ _ hm
  have lt4 : ∀ x ∈ p4, x.block < W.heap.size := by obtain ⟨m, hm⟩ := h4; exact DataW.trod_lt m _ _ _ hm
  have k0 := h0
  have k2 := h2
  have k4 := h4
  obtain ⟨q0, c0, ws, hv0, hws⟩ := open_words' (hval 0 22 v0 rfl rfl) h0
  obtain ⟨q2, c2, G, hv2, hG, _, hGr⟩ := open_nums (hval 2 23 v2 rfl rfl) h2
  obtain ⟨q4, c4, A, hv4, _, hA4, _⟩ := open_nums (hval 4 23 v4 rfl rfl) h4
  obtain ⟨y, rfl, rfl, rfl, wy⟩ := open_int Tryd.underlying3 (hval 1 3 v1 rfl rfl) h1
  obtain ⟨x, rfl, rfl, rfl, wx⟩ := open_int Tryd.underlying3 (hval 3 3 v3 rfl rfl) h3
  clear hA0 hval0
  refine (does_all W v0 v2 v4 ws G A y x (tabs_of_laid3 hL) (errT_of_laid3 hL) q0 q2 q4 c0 c2 c4 hv0 hv2 hv4 hws hG hGr hA4).mono fun e W' ⟨he, bel⟩ => ?_
  subst he
  exact ⟨_, rfl, _, _, _, [], _, [], hW', trodAll_mk1 (shut_bool Tryd.underlying4 _), (trodAll_cons_mk (Below.trod laidOut (by kernel_rfl) (of_decide_eq_true (by kernel_rfl)) k0 bel lt0) (trodAll_cons_mk (shut_int Tryd.underlying3 wy) (trodAll_cons_mk (Below.trod laidOut (by kernel_rfl) (of_decide_eq_true (by kernel_rfl)) k2 bel lt2) (trodAll_cons_mk (shut_int Tryd.underlying3 wx) (trodAll_cons_mk (Below.trod laidOut (by kernel_rfl) (of_decide_eq_true (by kernel_rfl)) k4 bel lt4) trodAll_mk0))))), rfl, bel.frame _, fun h => by cases h⟩

theorem does_row : Rows.MachineDoesSaid :=
  OpenClaim.holds_of_wide 3 Tryd.f3 rfl rfl rfl rfl rfl rfl rfl ⟨rfl, rfl, rfl, rfl, rfl⟩ rfl rfl rfl rfl rfl (by kernel_rfl) Tryd.func3 (by kernel_rfl)
    (of_decide_eq_true (by kernel_rfl)) (by unfold Func.isWrapper; first | (rw [if_pos (by decide +kernel)]; kernel_rfl) | (rw [if_neg (by decide +kernel)]; exact ⟨rfl, rfl⟩))
    (fun os started H enc _ => does_lifted os started H enc)

theorem machineDoes_holds : Rows.MachineDoesCardSaid :=
  Claim7.holds_tied_plain_at .later [] [.handle, .data, .data] true (true, "f1a0a074830c207c15debca3b27c5888a8ef051da4f9ae5bcc383fe4c35039eb") true
    does_row (fun _ h => by cases h) (by kernel_rfl) (fun _ h => by cases h) machineDoes_row_tie rfl ⟨rfl, rfl⟩ (by kernel_rfl) rfl
    (fun f fn hf hfn => by
      obtain rfl : f = 3 := Option.some.inj ((show Tryd.prog.funcNamed "bloomery/bloomerylaw.MachineDoes" = some 3 by kernel_rfl).symm.trans hf) |>.symm
      obtain rfl : fn = Tryd.f3 := (Option.some.inj (Tryd.func3.symm.trans hfn)).symm
      exact ⟨by kernel_rfl, fun j t ht => by
        rw [Tryd.params3] at ht
        have hm : t ∈ [22, 3, 23, 3, 23] := by simpa using Array.mem_of_getElem? ht
        have hall : ([22, 3, 23, 3, 23].all fun u => !Tryd.prog.wantsStandIn u) = true := by kernel_rfl
        exact (show Tryd.prog.wantsStandIn t = false by simpa using List.all_eq_true.1 hall t hm)⟩)
    (by kernel_rfl)
#print axioms machineDoes_holds
end Go.Proofs.YtaodcpdkobhmfaaDoor
