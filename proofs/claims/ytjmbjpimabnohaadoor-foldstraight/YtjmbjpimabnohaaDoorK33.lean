/- GI -/
import Derived.Test.YtjmbjpimabnohaaDoorK32
namespace Go.Proofs.YtjmbjpimabnohaaDoor.Mid
set_option linter.unusedVariables false
set_option linter.unusedSimpArgs false
open Go Go.RowKit
def KwP (w : World) (y : ByteArray) (tl : List Int) (z : Int) (e : Ending) (w' : World) : Prop := ∃ v' l', e = .returned v' ∧ FlM w' w.heap.size v' y tl l' ∧ Below w.heap.size w w' ∧ KnL tl.length z l'
abbrev lstK (c2 c3 c4 c5 c6 c7 a8 : Bool) : Array Bool := #[true, true, c2, c3, c4, c5, c6, c7, a8, false]
abbrev frK (B : Nat) (v0 v5 x12 x13 x14 x15 x16 x17 x3 : Value) : Act := { tmps := #[v0, ptr B, ptr (B + 1), x3, v0, v5, v5, .bool true, .bool false, undef, v5, v5, x12, x13, x14, x15, x16, x17, undef, undef, undef, undef, undef], defers := [] }
theorem res51 (tmps : Array Value) (w : World) (g : Nat) (a b c d : Value) (hp : tmps.getD 2 undef = .pointer (some ⟨g, 0, none⟩)) (hg : w.heap[g]? = some (.cells #[a, b, c, d] 35)) :
    (results Tryd.f51 tmps).run Tryd.prog w = .ok (.agg #[a, b, c, d]) w :=
  results_cell_row (p := 2) (ty := 35) Tryd.results51 _ _ g 35 _ (0, 0) _ hp hg Tryd.underlying35 rfl (by kernel_rfl)
theorem iF_none : (iF fun _ => none) = fun _ => none := by
  funext x
  cases x with
  | int k x => cases k <;> rfl
  | _ => rfl
theorem ready_after {md : Region.Mode} {ops : Array Oper} {i : Nat} {o : Oper} {listed : Array Bool} (hi : i ∈ Region.ready md ops listed) (ho : ops[i]? = some o) : listed.getD i true = false ∧ ∀ e ∈ o.after, Region.binds md e = true → listed.getD e.on false = true := by
  obtain ⟨h0, o', ho', hall⟩ := mem_ready.1 hi
  rw [ho] at ho'
  injection ho' with e
  subst e
  exact ⟨h0, hall⟩
def S0 : Fs := ⟨fun _ => none, fun _ => none, fun _ => none, fun _ => none, 0, 0, 0, 0, 0⟩
theorem S0_in : Ink S0 (fun _ => 0) 0 0 := ⟨fun p v h => (by cases h), fun v p h => (by cases h), fun n v h => (by cases h), fun x _ => rfl, fun p _ => rfl, Nat.le_refl _, Nat.le_refl _, Nat.le_refl _, Nat.le_refl _, Nat.le_refl _⟩
set_option maxRecDepth 100000 in
set_option maxHeartbeats 8000000 in
theorem known_51 (w : World) (B : Nat) (v : Value) (y : ByteArray) (tl : List Int) (l : List Ms) (z : Int) (h : FlM w B v y tl l) (hff : FfE w) (hg : Good tl.length z l) (hrt : ∀ s ∈ l, s.code = 8 → s = rt s.a) (ht1 : ∀ x ∈ tl, x = 1) (ht : tl.length ≤ 1000000) : Calls Tryd.prog 51 #[v] w (KwP w y tl z) := by
  obtain ⟨tq, tc, sq, sc, rfl⟩ := h.parts
  obtain ⟨nt, hnt⟩ : ∃ nt, tl.length = nt := ⟨_, rfl⟩
  obtain ⟨ns, hns⟩ : ∃ ns, l.length = ns := ⟨_, rfl⟩
  have hs := hg.st
  have hle := hs.le
  rw [hns] at hle
  obtain ⟨W2, hW2⟩ : ∃ W2, W2 = (w.alloc (.cells #[.string y, .int .i64 0, .slice tq nt tc, .slice sq ns sc] 35)).alloc fnZ := ⟨_, rfl⟩
  have hb2 : Below w.heap.size w W2 := by rw [hW2]; exact (al_bel _ _).trans ((al_bel (w.alloc _) _).mono (by simp))
  have hz2 : W2.heap.size = w.heap.size + 2 := by rw [hW2]; simp
  have k0 : W2.heap[w.heap.size]? = some (.cells #[.string y, .int .i64 0, .slice tq nt tc, .slice sq ns sc] 35) := by rw [hW2, row_eq_alloc (by simp)]; exact heap_alloc_last _ _
  have k1 : W2.heap[w.heap.size + 1]? = some fnZ := by
    have e : (w.alloc (.cells #[.string y, .int .i64 0, .slice tq nt tc, .slice sq ns sc] 35)).heap.size = w.heap.size + 1 := by simp
    rw [hW2, ← e]; exact heap_alloc_last _ _
  rw [hnt, hns] at h ⊢
  have HOw : Hid (Calls Tryd.prog 64 #[.agg #[.string y, .int .i64 0, .slice tq nt tc, .slice sq ns sc]] W2 (OnP W2 y tl l)) := own_any W2 B _ y tl l (h.below hb2) ht (by rw [hns]; omega)
  have HW2 : Hid (Below w.heap.size w W2 ∧ W2.heap.size = w.heap.size + 2 ∧ W2.heap[w.heap.size]? = some (.cells #[.string y, .int .i64 0, .slice tq nt tc, .slice sq ns sc] 35) ∧ W2.heap[w.heap.size + 1]? = some fnZ) := ⟨hb2, hz2, k0, k1⟩
  have HR : Hid (tl.length = nt ∧ l.length = ns ∧ StrL nt l ∧ FfE w ∧ nt ≤ 1000000) := ⟨hnt, hns, by rw [← hnt]; exact hs, hff, by rw [← hnt]; exact ht⟩
  have HGd : Hid (Good nt z l ∧ (∀ s ∈ l, s.code = 8 → s = rt s.a) ∧ (∀ x ∈ tl, x = 1)) := ⟨by rw [← hnt]; exact hg, hrt, ht1⟩
  have hmm4 : ∀ W : World, (Instr.makeMap 134 none).run Tryd.prog W = .ok (.map (some W.heap.size)) (W.alloc (.map #[] 0)) := fun W => by simp [Instr.makeMap, go_sem]
  have hmm5 : ∀ W : World, (Instr.makeMap 135 none).run Tryd.prog W = .ok (.map (some W.heap.size)) (W.alloc (.map #[] 0)) := fun W => by simp [Instr.makeMap, go_sem]
  have hmf : ∀ (fn : Fn) (first cap : Array Value) (w : World), (Instr.makeFunc fn first cap).run Tryd.prog w = .ok (.func fn first cap) w := fun _ _ _ _ => rfl
  have u0 := cell_at (i := 0) k0 rfl
  have u1 := cell_at (i := 1) k0 rfl
  have u2 := cell_at (i := 2) k0 rfl
  have u3 := cell_at (i := 3) k0 rfl
  rw [hW2] at u0 u1 u2 u3
  generalize hG : KwP w y tl z = G
  have HG : Hid (KwP w y tl z = G) := hG
  clear h hff hs hb2 hz2 k0 k1 hG hnt hns hg hrt ht1 ht
  go_enter Tryd.func51, Tryd.ntmps51
  go_wp2_with (go_at_call 64; fail)
  rw [← hW2]
  clear hW2 u0 u1 u2 u3
  refine HOw.out.mono ?_
  rintro e w3 ⟨v3, rfl, hf3, hb3⟩
  obtain ⟨tq3, tc3, sq3, sc3, rfl⟩ := hf3.parts
  rw [HR.out.1, HR.out.2.1] at hf3 ⊢
  obtain ⟨k0, k1⟩ := boxes (w := w) hb3 HW2.out.2.2.1 HW2.out.2.2.2
  obtain ⟨W4, hW4⟩ : ∃ W4, W4 = (((w3.setCell ⟨w.heap.size, 0, none⟩ (.string y)).setCell ⟨w.heap.size, 1, none⟩ (.int .i64 0)).setCell ⟨w.heap.size, 2, none⟩ (.slice tq3 nt tc3)).setCell ⟨w.heap.size, 3, none⟩ (.slice sq3 ns sc3) := ⟨_, rfl⟩
  have hI4 : RdI w y tq3 nt tc3 sq3 ns sc3 tl l W4 := by rw [hW4]; exact RdI.of (HW2.out.1.trans (hb3.mono HW2.out.1.size)) k0 k1 (by rw [← HW2.out.2.1]; exact hf3)
  have HI4 : Hid (RdI w y tq3 nt tc3 sq3 ns sc3 tl l W4) := hI4
  have HSo : Hid (Calls Tryd.prog 65 #[.agg #[.string y, .int .i64 0, .slice tq3 nt tc3, .slice sq3 ns sc3]] W4 (BtP W4 true)) := sound_any W4 _ _ y tl l hI4.fl (HR.out.2.2.2.1.below hI4.bel) (by rw [HR.out.1]; exact HR.out.2.2.1.all) (by rw [HR.out.2.1]; omega)
  have c0 := cell_at (i := 0) k0 rfl
  have c1 := cell_at (i := 1) k0 rfl
  have c2 := cell_at (i := 2) k0 rfl
  have c3 := cell_at (i := 3) k0 rfl
  have f0 := row_free k0 0
  have f1 := row_free k0 1
  have f2 := row_free k0 2
  have f3 := row_free k0 3
  have a0 := cell_at (i := 0) hI4.b0 rfl
  have a1 := cell_at (i := 1) hI4.b0 rfl
  have a2 := cell_at (i := 2) hI4.b0 rfl
  have a3 := cell_at (i := 3) hI4.b0 rfl
  rw [hW4] at a0 a1 a2 a3
  clear hf3 hb3 k0 k1 hI4 HOw
  go_wp2_with (go_at_call 65; fail)
  rw [← hW4]
  clear hW4 c0 c1 c2 c3 f0 f1 f2 f3 a0 a1 a2 a3
  refine HSo.out.mono ?_
  rintro e w5 ⟨rfl, hb5⟩
  have HI5 : Hid (RdI w y tq3 nt tc3 sq3 ns sc3 tl l w5) := HI4.out.below hb5
  have HWr : Hid (∀ W, Below w5.heap.size w5 W → Calls Tryd.prog 76 #[.agg #[.string y, .int .i64 0, .slice tq3 nt tc3, .slice sq3 ns sc3]] W (WtP W)) := fun W hb => by
    have hI := HI5.out.below hb
    exact written_76 W _ _ y tl l hI.fl (HR.out.2.2.2.1.below hI.bel) (by rw [HR.out.1]; exact HR.out.2.2.1.all) (by rw [HR.out.2.1]; omega) (by rw [HR.out.1]; exact HR.out.2.2.2.2)
  have HK : Hid (∀ W, Below w5.heap.size w5 W → W.cell? ⟨w.heap.size, 0, none⟩ = some (.string y) ∧ W.cell? ⟨w.heap.size, 1, none⟩ = some (.int .i64 0) ∧ W.cell? ⟨w.heap.size, 2, none⟩ = some (.slice tq3 nt tc3) ∧ W.cell? ⟨w.heap.size, 3, none⟩ = some (.slice sq3 ns sc3)) := fun W hb => by
    have hx := (HI5.out.below hb).b0
    exact ⟨cell_at (i := 0) hx rfl, cell_at (i := 1) hx rfl, cell_at (i := 2) hx rfl, cell_at (i := 3) hx rfl⟩
  clear hb5 HSo HI4
  go_upto_region 4 with fail
  go_cut [3] (fun v3 wx => ∃ b3, v3 = ptr b3 ∧ Hid (KnS w5 y (.slice tq3 nt tc3) (.slice sq3 ns sc3) b3 wx))
  case first =>
    refine wp_region_held_drew (S := fun w' => w'.cell? ⟨w.heap.size, 0, none⟩ = some (.string y) ∧ w'.cell? ⟨w.heap.size, 1, none⟩ = some (.int .i64 0) ∧ w'.cell? ⟨w.heap.size, 2, none⟩ = some (.slice tq3 nt tc3) ∧ w'.cell? ⟨w.heap.size, 3, none⟩ = some (.slice sq3 ns sc3)) (by kernel_rfl) ?_ (fun hHeld => ?_)
    · exact HK.out _ (Below.refl _ _).drew
    refine wpAnyH_take (i := 0) (v := ?val0) rfl (by kernel_rfl) (by kernel_rfl) (by kernel_rfl) (fun _ _ _ h => h) (Or.inl ⟨by rfl, ?hy0⟩) hHeld ?go0
    case hy0 => (intro w hSw; (try dsimp only at hSw); go_simp; try rfl)
    case go0 =>
    simp only [Act.put, List.setIfInBounds_toArray, List.set_cons_zero, List.set_cons_succ, List.getElem_toArray, List.getElem_cons_zero, List.getElem_cons_succ]
    refine wpAnyH_take (i := 1) (v := ?val1) rfl (by kernel_rfl) (by kernel_rfl) (by kernel_rfl) (fun _ _ _ h => h) (Or.inl ⟨by rfl, ?hy1⟩) hHeld ?go1
    case hy1 => (intro w hSw; (try dsimp only at hSw); go_simp; try rfl)
    case go1 =>
    simp only [Act.put, List.setIfInBounds_toArray, List.set_cons_zero, List.set_cons_succ, List.getElem_toArray, List.getElem_cons_zero, List.getElem_cons_succ]
    refine wpAnyH_meet (stop := lstK true true true true true true true) (n := 1) (I := fun listed a' w' => ∃ c2 c3 c4 c5 c6 c7 a8 x12 x13 x14 x15 x16 x17 x3, listed = lstK c2 c3 c4 c5 c6 c7 a8 ∧ a' = frK w.heap.size (.agg #[.string y, .int .i64 0, .slice tq nt tc, .slice sq ns sc]) (.agg #[.string y, .int .i64 0, .slice tq3 nt tc3, .slice sq3 ns sc3]) x12 x13 x14 x15 x16 x17 x3 ∧ KI w5 y (.slice tq3 nt tc3) (.slice sq3 ns sc3) c2 c3 c4 c5 c6 c7 a8 x12 x13 x14 x15 x16 x17 x3 w') rfl ?step ?stop ?cnt _ _ _ _ ⟨false, false, false, false, false, false, false, undef, undef, undef, undef, undef, undef, undef, by kernel_rfl, rfl, ?beg⟩ (by kernel_rfl) (by first | omega | decide)
    case beg => exact ⟨(Below.refl _ _).drew, fun e => (by cases e), fun e => (by cases e), fun e => (by cases e), fun e => (by cases e), fun e => (by cases e), fun e => (by cases e), fun e => (by cases e), fun e => (by cases e)⟩
    case cnt =>
      rintro listed a' w' ⟨c2, c3, c4, c5, c6, c7, a8, x12, x13, x14, x15, x16, x17, x3, rfl, _, _⟩ hc
      revert hc
      cases c2 <;> cases c3 <;> cases c4 <;> cases c5 <;> cases c6 <;> cases c7 <;> cases a8 <;> first | exact fun _ => rfl | exact fun h => absurd h (by decide)
    case step =>
      rintro listed a' w' ⟨c2, c3, c4, c5, c6, c7, a8, x12, x13, x14, x15, x16, x17, x3, rfl, rfl, hI⟩ hs
      refine ⟨?_, fun i hi => ?_⟩
      · have o6 : c6 = true → c2 = true ∧ c3 = true ∧ c4 = true ∧ c5 = true := fun e => ⟨(hI.e6 e).1, (hI.e6 e).2.1, (hI.e6 e).2.2.1, (hI.e6 e).2.2.2.1⟩
        have o7 : c7 = true → c6 = true := fun e => (hI.e7 e).1
        clear hI
        revert hs o6 o7
        cases c2 <;> cases c3 <;> cases c4 <;> cases c5 <;> cases c6 <;> cases c7 <;> cases a8 <;> first | exact fun _ _ _ => by decide +kernel | exact fun h _ _ => absurd rfl h | exact fun _ h _ => absurd (h rfl) (by decide) | exact fun _ _ h => absurd (h rfl) (by decide)
      · obtain ⟨h0, o', ho', -⟩ := mem_ready.1 hi
        have h10 : i < 10 := (Array.getElem?_eq_some_iff.1 ho').1
        clear ho' o'
        have hcs : i = 2 ∨ i = 3 ∨ i = 4 ∨ i = 5 ∨ i = 6 ∨ i = 7 ∨ i = 8 ∨ i = 9 := by
          have hd : ∀ j : Fin 10, (j.val = 2 ∨ j.val = 3 ∨ j.val = 4 ∨ j.val = 5 ∨ j.val = 6 ∨ j.val = 7 ∨ j.val = 8 ∨ j.val = 9) ∨ (lstK c2 c3 c4 c5 c6 c7 a8).getD j.val true = true := by
            cases c2 <;> cases c3 <;> cases c4 <;> cases c5 <;> cases c6 <;> cases c7 <;> cases a8 <;> decide +kernel
          rcases hd ⟨i, h10⟩ with h | h
          · exact h
          · rw [h0] at h; cases h
        clear h10
        rcases hcs with rfl | rfl | rfl | rfl | rfl | rfl | rfl | rfl
        · have q : c2 = false := h0
          refine wpOp_step (o := { dst := some 12, op := Op.call { callee := Callee.value (Operand.func 76), args := #[Operand.tmp 11], argTypes := #[35] }, type := 69, pos := "known.go:14", after := #[{ on := 1, ground := Ground.data }], guard := none }) rfl (fun K hK => ?_)
          go_simp
          refine (HWr.out w' hI.bel).mono ?_
          rintro e w1 ⟨b, rfl, l1, l2, hb1⟩
          have hI2 := hI.new2 q hb1 b
          exact hK _ _ ⟨HK.out _ hI2.bel, true, c3, c4, c5, c6, c7, a8, _, x13, x14, x15, x16, x17, x3, rfl, rfl, hI2⟩
        · have q : c3 = false := h0
          refine wpOp_step (o := { dst := some 13, op := Op.makeMap 134 none, type := 134, pos := "known.go:14", after := #[], guard := none }) rfl (fun K hK => ?_)
          go_simp
          have hI2 := hI.new3 q
          exact hK _ _ ⟨HK.out _ hI2.bel, c2, true, c4, c5, c6, c7, a8, x12, _, x14, x15, x16, x17, x3, rfl, rfl, hI2⟩
        · have q : c4 = false := h0
          refine wpOp_step (o := { dst := some 14, op := Op.makeMap 135 none, type := 135, pos := "known.go:14", after := #[], guard := none }) rfl (fun K hK => ?_)
          go_simp
          have hI2 := hI.new4 q
          exact hK _ _ ⟨HK.out _ hI2.bel, c2, c3, true, c5, c6, c7, a8, x12, x13, _, x15, x16, x17, x3, rfl, rfl, hI2⟩
        · have q : c5 = false := h0
          refine wpOp_step (o := { dst := some 15, op := Op.makeMap 134 none, type := 134, pos := "known.go:14", after := #[], guard := none }) rfl (fun K hK => ?_)
          go_simp
          have hI2 := hI.new5 q
          exact hK _ _ ⟨HK.out _ hI2.bel, c2, c3, c4, true, c6, c7, a8, x12, x13, x14, _, x16, x17, x3, rfl, rfl, hI2⟩
        · have q : c6 = false := h0
          have ra := (ready_after hi (o := { dst := some 16, op := Op.build 137 #[(0, Operand.tmp 10), (1, Operand.tmp 12), (2, Operand.const (Value.bool true)), (5, Operand.tmp 13), (6, Operand.tmp 14), (7, Operand.tmp 15)], type := 137, pos := "known.go:14", after := #[{ on := 0, ground := Ground.data }, { on := 2, ground := Ground.data }, { on := 3, ground := Ground.data }, { on := 4, ground := Ground.data }, { on := 5, ground := Ground.data }], guard := none }) rfl).2
          have q2 : c2 = true := ra ⟨2, .data⟩ (by simp) rfl
          have q3 : c3 = true := ra ⟨3, .data⟩ (by simp) rfl
          have q4 : c4 = true := ra ⟨4, .data⟩ (by simp) rfl
          have q5 : c5 = true := ra ⟨5, .data⟩ (by simp) rfl
          clear ra
          obtain ⟨b12, rfl⟩ := hI.e2 q2
          obtain ⟨b13, rfl, -, -⟩ := hI.e3 q3
          obtain ⟨b14, rfl, -, -⟩ := hI.e4 q4
          obtain ⟨b15, rfl⟩ := hI.e5 q5
          have hI2 := hI.new6 q q2 q3 q4 q5
          refine wpOp_step (o := { dst := some 16, op := Op.build 137 #[(0, Operand.tmp 10), (1, Operand.tmp 12), (2, Operand.const (Value.bool true)), (5, Operand.tmp 13), (6, Operand.tmp 14), (7, Operand.tmp 15)], type := 137, pos := "known.go:14", after := #[{ on := 0, ground := Ground.data }, { on := 2, ground := Ground.data }, { on := 3, ground := Ground.data }, { on := 4, ground := Ground.data }, { on := 5, ground := Ground.data }], guard := none }) rfl (fun K hK => ?_)
          go_simp
          exact hK _ _ ⟨HK.out _ hI2.bel, c2, c3, c4, c5, true, c7, a8, _, _, _, _, _, x17, x3, rfl, rfl, hI2⟩
        · have q6 : c6 = true := (ready_after hi (o := { dst := some 17, op := Op.box 137 (Operand.tmp 16), type := 132, pos := "known.go:14", after := #[{ on := 6, ground := Ground.data }], guard := none }) rfl).2 ⟨6, .data⟩ (by simp) rfl
          have e6 := (hI.e6 q6).2.2.2.2
          have hI2 := hI.new7 q6
          subst e6
          refine wpOp_step (o := { dst := some 17, op := Op.box 137 (Operand.tmp 16), type := 132, pos := "known.go:14", after := #[{ on := 6, ground := Ground.data }], guard := none }) rfl (fun K hK => ?_)
          go_simp
          exact hK _ _ ⟨HK.out _ hI2.bel, c2, c3, c4, c5, c6, true, a8, x12, x13, x14, x15, _, _, x3, rfl, rfl, hI2⟩
        · refine wpOp_step (o := { dst := some 3, op := Op.alloc 132, type := 0, pos := "known.go:14", after := #[], guard := none }) rfl (fun K hK => ?_)
          go_simp
          have hI2 := hI.new8
          exact hK _ _ ⟨HK.out _ hI2.bel, c2, c3, c4, c5, c6, c7, true, x12, x13, x14, x15, x16, x17, _, rfl, rfl, hI2⟩
        · exfalso
          have ra := (ready_after hi (o := { dst := none, op := Op.store 132 (Operand.tmp 3) (Operand.tmp 17), type := 0, pos := "known.go:14", after := #[{ on := 8, ground := Ground.data }, { on := 7, ground := Ground.data }, { on := 2, ground := Ground.chain }, { on := 0, ground := Ground.phase }, { on := 1, ground := Ground.phase }, { on := 2, ground := Ground.phase }, { on := 3, ground := Ground.phase }, { on := 4, ground := Ground.phase }, { on := 5, ground := Ground.phase }, { on := 6, ground := Ground.phase }, { on := 7, ground := Ground.phase }, { on := 8, ground := Ground.phase }], guard := none }) rfl).2
          have q2 : c2 = true := ra ⟨2, .phase⟩ (by simp) rfl
          have q3 : c3 = true := ra ⟨3, .phase⟩ (by simp) rfl
          have q4 : c4 = true := ra ⟨4, .phase⟩ (by simp) rfl
          have q5 : c5 = true := ra ⟨5, .phase⟩ (by simp) rfl
          have q6 : c6 = true := ra ⟨6, .phase⟩ (by simp) rfl
          have q7 : c7 = true := ra ⟨7, .phase⟩ (by simp) rfl
          have q8 : a8 = true := ra ⟨8, .phase⟩ (by simp) rfl
          subst q2 q3 q4 q5 q6 q7 q8
          exact hs rfl
    case stop =>
      rintro a' w' ⟨c2, c3, c4, c5, c6, c7, a8, x12, x13, x14, x15, x16, x17, x3, hl, rfl, hI⟩
      have hl2 : c2 = true ∧ c3 = true ∧ c4 = true ∧ c5 = true ∧ c6 = true ∧ c7 = true ∧ a8 = true := by
        simp only [lstK, Array.mk.injEq, List.cons.injEq, true_and, and_true] at hl
        exact ⟨hl.1.symm, hl.2.1.symm, hl.2.2.1.symm, hl.2.2.2.1.symm, hl.2.2.2.2.1.symm, hl.2.2.2.2.2.1.symm, hl.2.2.2.2.2.2.symm⟩
      obtain ⟨rfl, rfl, rfl, rfl, rfl, rfl, rfl⟩ := hl2
      obtain ⟨-, b17, rfl, l17, g17⟩ := hI.e7 rfl
      obtain ⟨b3, rfl, l3, g3⟩ := hI.e8 rfl
      have z3 : w'.cell? ⟨b3, 0, none⟩ = some (.pointer none) := cell_at (i := 0) g3 rfl
      have y3 : w'.frozen? ⟨b3, 0, none⟩ = false := row_free g3 0
      have HF : Hid (KnS w5 y (.slice tq3 nt tc3) (.slice sq3 ns sc3) b3 (w'.setCell ⟨b3, 0, none⟩ (ptr b17))) := hI.stored
      clear hI hl g3 g17
      refine wpAnyH_ready (rs := [9]) (by kernel_rfl) (by simp) ?_
      refine AllReadyH.cons (o := { dst := none, op := Op.store 132 (Operand.tmp 3) (Operand.tmp 17), type := 0, pos := "known.go:14", after := #[{ on := 8, ground := Ground.data }, { on := 7, ground := Ground.data }, { on := 2, ground := Ground.chain }, { on := 0, ground := Ground.phase }, { on := 1, ground := Ground.phase }, { on := 2, ground := Ground.phase }, { on := 3, ground := Ground.phase }, { on := 4, ground := Ground.phase }, { on := 5, ground := Ground.phase }, { on := 6, ground := Ground.phase }, { on := 7, ground := Ground.phase }, { on := 8, ground := Ground.phase }], guard := none }) rfl (fun K hK => ?_) AllReadyH.nil
      go_simp
      refine hK _ _ (HK.out _ HF.out.bel) (fun _ => ?_)
      clear hK K
      refine wpAnyH_done (by kernel_rfl) ?_ _
      go_wp2_with fail
      go_meet
      exact ⟨b3, rfl, HF⟩
  case rest =>
    obtain ⟨b3, rfl, HF⟩ := hcut
    obtain ⟨⟨kb, wb, nb, vb, lb, k1, k2, k3, k4, k5, k6, k7, k8, k9⟩, hbel⟩ := HF.out
    have HFg : Hid (Calls Tryd.prog 77 #[ptr kb] wc (FgP wc kb (fun i => (fz y (.slice tq3 nt tc3) (.slice sq3 ns sc3) (.map (some wb)) (.map (some nb)) (.map (some vb)) (.map (some lb))).getD i undef))) := forget_77 wc kb _ k2
    have x0 : wc.cell? ⟨b3, 0, none⟩ = some (ptr kb) := cell_at (i := 0) k1 rfl
    have HKs : Hid (wc.heap[b3]? = some (.cells #[ptr kb] 132) ∧ wc.heap[kb]? = some (.cells (fz y (.slice tq3 nt tc3) (.slice sq3 ns sc3) (.map (some wb)) (.map (some nb)) (.map (some vb)) (.map (some lb))) 137) ∧ Mp 3 wc nb (fun _ => none) 0 ∧ Mp 2 wc vb (fun _ => none) 0 ∧ nb ≠ vb ∧ w5.heap.size ≤ b3 ∧ w5.heap.size ≤ kb ∧ w5.heap.size ≤ nb ∧ w5.heap.size ≤ vb ∧ Below w5.heap.size w5 wc) := ⟨k1, k2, k3, k4, k5, k6, k7, k8, k9, hbel⟩
    clear k1 k2 k3 k4 k5 k6 k7 k8 k9 hbel
    go_wp2_with (go_at_call 77; fail)
    clear x0
    refine HFg.out.mono ?_
    rintro e w6 ⟨rfl, g1, g2, g3, g4, g5⟩
    obtain ⟨k1, k2, k3, k4, k5, k6, k7, k8, k9, hbel⟩ := HKs.out
    have hb6 : Below w5.heap.size w5 w6 := ⟨g5.os.trans hbel.os, g5.tape.trans hbel.tape, g5.output.trans hbel.output, Nat.le_trans hbel.size g5.size, fun b hb => by rw [g5.blk b (by have := hbel.size; omega) (by simp; omega)]; exact hbel.block b hb⟩
    have hI6 := HI5.out.below hb6
    have hgd := HGd.out.1
    have hst := hgd.st
    have hp := hst.pos
    have hnt : 0 < nt := by
      obtain ⟨s, hs⟩ : ∃ s, l[l.length - 1]? = some s := ⟨l[l.length - 1]'(by omega), List.getElem?_eq_getElem _⟩
      have h8 := hst.last s hs
      have := (hst.all s (List.mem_of_getElem? hs)).a (by rw [h8]; decide)
      omega
    obtain ⟨es, c, m1⟩ := k3.blk
    obtain ⟨es', c', m2⟩ := k4.blk
    have l1 := (Array.getElem?_eq_some_iff.1 k1).1
    have l2 := (Array.getElem?_eq_some_iff.1 k2).1
    have l3 := k3.lt
    have l4 := k4.lt
    have n1 : kb ≠ nb := fun e => by rw [← e, k2] at m1; cases m1
    have n2 : kb ≠ vb := fun e => by rw [← e, k2] at m2; cases m2
    have n3 : b3 ≠ kb := fun e => by rw [← e, k1] at k2; injection k2 with k2; injection k2 with _ k2; cases k2
    have n4 : b3 ≠ nb := fun e => by rw [← e, k1] at m1; cases m1
    have n5 : b3 ≠ vb := fun e => by rw [← e, k1] at m2; cases m2
    obtain ⟨tv', sv', ev, ho1, ho2⟩ := HI5.out.fl
    have ev1 : tv' = .slice tq3 nt tc3 := by
      injection ev with ev
      have := congrArg (fun a : Array Value => a[2]?) ev
      simpa using this.symm
    have ev2 : sv' = .slice sq3 ns sc3 := by
      injection ev with ev
      have := congrArg (fun a : Array Value => a[3]?) ev
      simpa using this.symm
    subst ev1 ev2
    rw [HR.out.1] at ho1
    rw [HR.out.2.1] at ho2
    obtain ⟨tb, rfl⟩ : ∃ tb, tq3 = some ⟨tb, 0, none⟩ := by
      rcases own_row ho1 with ⟨_, e2⟩ | ⟨g, cap, e1, _, _⟩
      · omega
      · injection e1 with e1
        exact ⟨g, e1⟩
    obtain ⟨sb, rfl⟩ : ∃ sb, sq3 = some ⟨sb, 0, none⟩ := by
      rcases own_row ho2 with ⟨_, e2⟩ | ⟨g, cap, e1, _, _⟩
      · have := HR.out.2.1; omega
      · injection e1 with e1
        exact ⟨g, e1⟩
    have t1 := ho1.lt tb rfl
    have t2 := ho2.lt sb rfl
    have tne : tb ≠ sb := fun e => by
      rcases ho1.2 with ⟨q, _⟩ | ⟨g, cap, cur, q, _, q3, _⟩
      · cases q
      · rcases ho2.2 with ⟨r, _⟩ | ⟨g', cap', cur', r, _, r3, _⟩
        · cases r
        · injection q with q
          injection q with q
          injection q with q
          injection r with r
          injection r with r
          injection r with r
          rw [← q, e, r, r3] at q3
          injection q3 with q3
          injection q3 with _ q3
          cases q3
    have hz5 : w.heap.size + 2 ≤ w5.heap.size := by have := (Array.getElem?_eq_some_iff.1 HI5.out.b1).1; omega
    obtain ⟨X, hX⟩ : ∃ X : Fx, X = ⟨y, .slice (some ⟨tb, 0, none⟩) nt tc3, .slice (some ⟨sb, 0, none⟩) ns sc3, kb, wb, wc.heap.size, wc.heap.size + 1, nb, vb, lb⟩ := ⟨_, rfl⟩
    have hZ : X.Z = [kb, wc.heap.size, wc.heap.size + 1, nb, vb] := by rw [hX]
    have hfc : FcM w6 X S0 := by
      rw [hX]
      refine ⟨g1, ?_, ?_, ?_, ?_, ?_, by show (0 : Nat) ≤ _ ∧ (0 : Nat) ≤ _ ∧ (0 : Nat) ≤ _ ∧ (0 : Nat) ≤ _ ∧ (0 : Nat) ≤ _; omega⟩
      · show Mp 3 w6 _ (iF fun _ => none) 0; rw [iF_none]; exact g2
      · show Mp 3 w6 _ (iF fun _ => none) 0; rw [iF_none]; exact g3
      · show Mp 3 w6 _ (iF fun _ => none) 0; rw [iF_none]; exact k3.kept (g5.blk _ l3 (by simp; omega))
      · show Mp 2 w6 _ (iF fun _ => none) 0; rw [iF_none]; exact k4.kept (g5.blk _ l4 (by simp; omega))
      · show [kb, wc.heap.size, wc.heap.size + 1, nb, vb].Nodup
        simp only [List.nodup_cons, List.mem_cons, List.not_mem_nil, or_false, not_or, List.nodup_nil, not_false_eq_true, and_true]
        omega
    have E : KnE w w6 X (some ⟨tb, 0, none⟩) nt tc3 sb sc3 b3 := by
      refine ⟨by rw [hX], fun b hb => ?_, ⟨by omega, by omega, by omega, ?_⟩, ⟨t2.1, by omega⟩, ⟨tb, rfl, t1.1, by omega, tne, ?_⟩, HR.out.2.2.2.1, HR.out.2.2.2.2⟩
      · rw [hZ] at hb
        simp only [List.mem_cons, List.not_mem_nil, or_false] at hb
        omega
      · rw [hZ]
        simp only [List.mem_cons, List.not_mem_nil, or_false, not_or]
        omega
      · rw [hZ]
        simp only [List.mem_cons, List.not_mem_nil, or_false, not_or]
        omega
    have ho1' : w6.ownsRow (w.heap.size + 2) 3 1 (.slice (some ⟨tb, 0, none⟩) nt tc3) nt (ints tl) := own_at ho1 (fun i hi => hb6.block i (own_lt ho1 i hi))
    have ho2' : w6.ownsRow (w.heap.size + 2) 44 10 (.slice (some ⟨sb, 0, none⟩) ns sc3) ns (rowC l) := own_at ho2 (fun i hi => hb6.block i (own_lt ho2 i hi))
    have HWo : Hid (Calls Tryd.prog 68 #[.agg #[.string y, .int .i64 0, .slice (some ⟨tb, 0, none⟩) nt tc3, .slice (some ⟨sb, 0, none⟩) ns sc3], .func (.func 78) #[] #[ptr b3, ptr w.heap.size]] w6 (WgP w6 (w.heap.size + 2) y (some ⟨tb, 0, none⟩) nt tc3 sb ns sc3 (KnJ w w6 X y (some ⟨tb, 0, none⟩) nt tc3 sb sc3 ns b3 tl l z))) := by
      refine without_g78 w6 (w.heap.size + 2) y (some ⟨tb, 0, none⟩) nt tc3 sb sc3 ns l b3 w.heap.size HR.out.2.1 ho2' (by have := HR.out.2.1; omega) hle _ ⟨hI6.bel, Nat.le_refl _, hI6.b0, hI6.b1, ?_, ho1', .inl ⟨by have := HR.out.2.1; omega, S0, hfc, S0_in, Kp.zero⟩⟩ (fun i kept W W' h hk => h.stable E hk) (fun W i kept s cur hz hs hJ hrow hcs hc => known_78 w w6 X y _ nt tc3 sb sc3 ns b3 tl l z E hgd HGd.out.2.1 HR.out.2.1 HR.out.1 HGd.out.2.2 W i kept s cur hs hJ hrow hcs hc)
      rw [g5.blk _ l1 (by simp; omega), k1, hX]
    have a0 := cell_at (i := 0) hI6.b0 rfl
    have a1 := cell_at (i := 1) hI6.b0 rfl
    have a2 := cell_at (i := 2) hI6.b0 rfl
    have a3 := cell_at (i := 3) hI6.b0 rfl
    clear g1 g2 g3 g4 g5 k1 k2 k3 k4 k5 k6 k7 k8 k9 hbel hb6 hI6 hgd hst hp hnt m1 m2 l1 l2 l3 l4 n1 n2 n3 n4 n5 ev ho1 ho2 t1 t2 tne hz5 hX hZ hfc E ho1' ho2' HKs HF HFg HI5 HWr HK
    go_wp2_with (go_at_call 68; fail)
    clear a0 a1 a2 a3
    refine HWo.out.mono ?_
    rintro e w8 ⟨kept, rfl, hk1, hk2, hk3⟩
    have HJ : Hid (KnJ w w6 X y (some ⟨tb, 0, none⟩) nt tc3 sb sc3 ns b3 tl l z ns kept w8) := hk2
    have HO : Hid (w8.ownsRow (w.heap.size + 2) 44 10 (.slice (some ⟨sb, 0, none⟩) kept.length sc3) kept.length (rowC kept)) := hk3
    have z0 := cell_at (i := 0) hk2.r rfl
    have z1 := cell_at (i := 1) hk2.r rfl
    have z2 := cell_at (i := 2) hk2.r rfl
    have z3 := cell_at (i := 3) hk2.r rfl
    have g0 := row_free hk2.r 0
    have g1 := row_free hk2.r 1
    have g2 := row_free hk2.r 2
    have g3 := row_free hk2.r 3
    clear hk2 hk3
    go_wp2
    refine bodyPost_ret (res51 _ _ (w.heap.size + 1) _ _ _ _ rfl (set4 HJ.out.r)) rfl ?_
    rw [← HG.out]
    have hk : ∀ k, k ≠ w.heap.size + 1 → ((((w8.setCell ⟨w.heap.size + 1, 0, none⟩ (.string y)).setCell ⟨w.heap.size + 1, 1, none⟩ (.int .i64 0)).setCell ⟨w.heap.size + 1, 2, none⟩ (.slice (some ⟨tb, 0, none⟩) nt tc3)).setCell ⟨w.heap.size + 1, 3, none⟩ (.slice (some ⟨sb, 0, none⟩) kept.length sc3)).heap[k]? = w8.heap[k]? := fun k hk => by
      rw [heap_setCell_other _ _ _ _ hk, heap_setCell_other _ _ _ _ hk, heap_setCell_other _ _ _ _ hk, heap_setCell_other _ _ _ _ hk]
    have h1 := HJ.out.t
    have h2 := HO.out
    refine ⟨_, kept, rfl, ⟨_, _, rfl, ?_, own_mono (own_at h2 (fun i hi => hk i (by have := (h2.lt i hi).1; omega))) (by omega)⟩, ?_, ?_⟩
    · rw [HR.out.1]
      exact own_mono (own_at h1 (fun i hi => hk i (by have := (h1.lt i hi).1; omega))) (by omega)
    · exact (((HJ.out.bel.setCell (p := ⟨w.heap.size + 1, 0, none⟩) (by show w.heap.size ≤ w.heap.size + 1; omega) _).setCell (p := ⟨w.heap.size + 1, 1, none⟩) (by show w.heap.size ≤ w.heap.size + 1; omega) _).setCell (p := ⟨w.heap.size + 1, 2, none⟩) (by show w.heap.size ≤ w.heap.size + 1; omega) _).setCell (p := ⟨w.heap.size + 1, 3, none⟩) (by show w.heap.size ≤ w.heap.size + 1; omega) _
    · rw [HR.out.1]
      rcases HJ.out.st with ⟨h, _⟩ | ⟨_, h⟩
      · omega
      · exact h
end Go.Proofs.YtjmbjpimabnohaaDoor.Mid
