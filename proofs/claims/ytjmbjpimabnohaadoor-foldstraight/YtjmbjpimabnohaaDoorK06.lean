/- QG -/
import Derived.Test.YtjmbjpimabnohaaDoorK05
import Derived.Deep.DeepCutAuto
import Derived.Laws.EntriesVeiled
namespace Go.Proofs.YtjmbjpimabnohaaDoor.Mid
set_option linter.unusedVariables false
set_option linter.unusedSimpArgs false
open Go Go.RowKit
structure Frm where
  d : Int
  a : Int
  b : Int
  c : Int
  g : Bool
def frm : Nat → Frm
  | 1 => ⟨1, 0, 0, 0, false⟩
  | 3 => ⟨1, 1, 1, 0, false⟩
  | 4 => ⟨0, 0, 0, 0, true⟩
  | 5 => ⟨0, 1, 0, 0, true⟩
  | 7 => ⟨1, 0, 0, 0, false⟩
  | 8 => ⟨0, 1, 0, 0, false⟩
  | 9 => ⟨2, 1, 0, 0, false⟩
  | 10 => ⟨1, 2, 0, 0, false⟩
  | 11 => ⟨1, 2, 1, 0, false⟩
  | 12 => ⟨0, 2, 1, 1, false⟩
  | 13 => ⟨0, 1, 0, 0, false⟩
  | 14 => ⟨1, 0, 0, 0, false⟩
  | _ => ⟨0, 0, 0, 0, false⟩
def FmE (w : World) : Prop := ∀ j, j < 15 → w.cell? ⟨0, j * 5, none⟩ = some (.int .i64 (frm j).d) ∧ w.cell? ⟨0, j * 5 + 1, none⟩ = some (.int .i64 (frm j).a) ∧ w.cell? ⟨0, j * 5 + 2, none⟩ = some (.int .i64 (frm j).b) ∧ w.cell? ⟨0, j * 5 + 3, none⟩ = some (.int .i64 (frm j).c) ∧ w.cell? ⟨0, j * 5 + 4, none⟩ = some (.bool (frm j).g)
def besB (fs : By → Option Mf) (F : Mf) (s : Ms) : Bool :=
  if s.code = 2 then (isB F s.dst 1 && isB F s.a 1) || (isB F s.dst 2 && isB F s.a 2)
  else if s.code = 3 then markB s.op
  else if s.code = 7 then fitsB F (fs s.name) s.args
  else true
def allB (F : Mf) (s : Ms) (m : Frm) : Bool := hasB F s.dst m.d && (hasB F s.a m.a && (hasB F s.b m.b && hasB F s.c m.c))
def stepB (fs : By → Option Mf) (F : Mf) (s : Ms) : Bool :=
  decide (1 ≤ s.code ∧ s.code ≤ 14) && (allB F s (frm s.code.toNat) && ((!(frm s.code.toNat).g || (labOf F.steps s.label).isSome) && besB fs F s))
structure StE (w : World) (fs : By → Option Mf) (fb fo sb so mb nb : Nat) (F : Mf) (s : Ms) : Prop where
  fn : FnAt w fb fo F
  st : StepAt w sb so s
  fm : FmE w
  mks : MkE w
  lab : ∃ n, Mp 3 w mb (labF F.steps) n
  by' : ∃ f n, Mp 9 w nb f n ∧ ((f (.string s.name) = none ∧ fs s.name = none) ∨ ∃ gb go G, f (.string s.name) = some (.pointer (some ⟨gb, go, none⟩)) ∧ fs s.name = some G ∧ FnAt w gb go G ∧ placesB G = true)
theorem sb_no {fs : By → Option Mf} {F : Mf} {s : Ms} (h : ¬ (1 ≤ s.code ∧ s.code ≤ 14)) : stepB fs F s = false := by unfold stepB; rw [decide_eq_false h]; rfl
theorem sb_yes {fs : By → Option Mf} {F : Mf} {s : Ms} {cd : Nat} (h : s.code = cd) (h1 : 1 ≤ cd) (h2 : cd ≤ 14) : stepB fs F s = (allB F s (frm cd) && ((!(frm cd).g || (labOf F.steps s.label).isSome) && besB fs F s)) := by
  unfold stepB; rw [decide_eq_true (by omega), h, Int.toNat_natCast]; rfl
theorem frm_g {cd : Nat} (h : (frm cd).g = true) : cd = 4 ∨ cd = 5 := by
  unfold frm at h
  split at h <;> simp_all
theorem BoxF.below {w w' : World} {bf : Nat} {F : Mf} (h : BoxF w bf F) (hb : Below w.heap.size w w') : BoxF w' bf F := by
  obtain ⟨fb, fo, h1, h2⟩ := h
  exact ⟨fb, fo, by rw [hb.cell (p := ⟨bf, 0, none⟩) (cell_lt h1)]; exact h1, h2.below hb⟩
set_option maxRecDepth 100000 in
set_option maxHeartbeats 4000000 in
theorem step_any (w : World) (fs : By → Option Mf) (fb fo sb so mb nb : Nat) (F : Mf) (s : Ms) (h : StE w fs fb fo sb so mb nb F s) :
    Calls Tryd.prog 37 #[.pointer (some ⟨fb, fo, none⟩), .pointer (some ⟨sb, so, none⟩), .map (some mb), .map (some nb)] w (LkP (stepB fs F s) w) := by
  have k0 := h.st.c0
  have HS : Hid (StE w fs fb fo sb so mb nb F s) := h
  obtain ⟨cc, hcc⟩ : ∃ cc, s.code = cc := ⟨_, rfl⟩
  rw [hcc] at k0
  have HCC : Hid (s.code = cc) := hcc
  generalize hG : LkP (stepB fs F s) w = G
  have HG : Hid (LkP (stepB fs F s) w = G) := hG
  clear h hG hcc
  have e1 : ∀ W, Below w.heap.size w W → W.cell? ⟨sb, so, none⟩ = some (.int .i64 cc) := fun W hb => by rw [hb.cell (p := ⟨sb, so, none⟩) (cell_lt k0)]; exact k0
  obtain ⟨W2, hW2⟩ : ∃ W2, W2 = (w.alloc (.cells #[.pointer (some ⟨fb, fo, none⟩)] 64)).alloc (.cells #[isV w.heap.size] 108) := ⟨_, rfl⟩
  have HB2 : Hid (Below w.heap.size w W2) := by rw [hW2]; exact (al_bel2 _ _).trans ((al_bel2 _ _).mono (by simp))
  have k2 := e1 W2 HB2.out
  rw [hW2] at k2
  by_cases hr : 1 ≤ cc ∧ cc ≤ 14
  · obtain ⟨cd, rfl⟩ : ∃ cd : Nat, cc = cd := ⟨cc.toNat, by omega⟩
    have HR : Hid (1 ≤ cd ∧ cd ≤ 14) := ⟨by omega, by omega⟩
    obtain ⟨f0, f1, f2, f3, f4⟩ := HS.out.fm cd (by omega)
    obtain ⟨m, hm⟩ : ∃ m, frm cd = m := ⟨_, rfl⟩
    rw [hm] at f0 f1 f2 f3 f4
    obtain ⟨md, ma, mB, mc, mg⟩ := m
    have HM : Hid (frm cd = ⟨md, ma, mB, mc, mg⟩) := hm
    dsimp only at f0 f1 f2 f3 f4
    have kp : ∀ W, Below w.heap.size w W → ∀ (b o : Nat) (v : Value), w.cell? ⟨b, o, none⟩ = some v → W.cell? ⟨b, o, none⟩ = some v := fun W hb b o v hv => by rw [hb.cell (p := ⟨b, o, none⟩) (cell_lt hv)]; exact hv
    have g0 := kp W2 HB2.out _ _ _ f0
    have g1 := kp W2 HB2.out _ _ _ f1
    have g2 := kp W2 HB2.out _ _ _ f2
    have g3 := kp W2 HB2.out _ _ _ f3
    have g4 := kp W2 HB2.out _ _ _ f4
    rw [hW2] at g0 g1 g2 g3 g4
    obtain ⟨W3, hW3⟩ : ∃ W3, W3 = W2.alloc (.cells #[.int .i64 md, .int .i64 ma, .int .i64 mB, .int .i64 mc, .bool mg] 110) := ⟨_, rfl⟩
    have hz2 : W2.heap.size = w.heap.size + 2 := by rw [hW2]; simp
    have HB3 : Hid (Below w.heap.size w W3) := by rw [hW3]; exact HB2.out.trans ((al_bel2 _ _).mono (by omega))
    have n0 : W3.heap[w.heap.size + 2]? = some (.cells #[.int .i64 md, .int .i64 ma, .int .i64 mB, .int .i64 mc, .bool mg] 110) := by rw [hW3, ← hz2]; exact heap_alloc_last _ _
    have n1 : W3.heap[w.heap.size + 1]? = some (.cells #[isV w.heap.size] 108) := by
      rw [hW3, row_eq_alloc (by omega), hW2]
      have := heap_alloc_last (w.alloc (.cells #[.pointer (some ⟨fb, fo, none⟩)] 64)) (.cells #[isV w.heap.size] 108)
      simpa using this
    have n2 : W3.heap[w.heap.size]? = some (.cells #[.pointer (some ⟨fb, fo, none⟩)] 64) := by
      rw [hW3, row_eq_alloc (by omega), hW2, row_eq_alloc (by simp)]
      exact heap_alloc_last _ _
    have HBx : Hid (∀ n, BoxF (W3.drewN n) w.heap.size F) := fun n => ⟨fb, fo, cell_at (w := W3) (i := 0) n2 rfl, (HS.out.fn.below HB3.out).below ⟨rfl, rfl, rfl, Nat.le_refl _, fun _ _ => rfl⟩⟩
    have HCh : Hid (∀ n p k b, hasB F p k = b → Calls Tryd.prog 53 #[.int .i64 p, .int .i64 k, ptr (w.heap.size + 1)] (W3.drewN n) (fun e w' => e = .returned (.bool b) ∧ w' = W3.drewN n)) := fun n p k b hb => by subst hb; exact has_any _ w.heap.size _ F p k (HBx.out n) (cell_at (w := W3) (i := 0) n1 rfl)
    have HCi : Hid (∀ n p k b, isB F p k = b → Calls Tryd.prog 52 #[.int .i64 p, .int .i64 k, ptr w.heap.size] (W3.drewN n) (fun e w' => e = .returned (.bool b) ∧ w' = W3.drewN n)) := fun n p k b hb => by subst hb; exact is_any _ w.heap.size F p k (HBx.out n)
    have b1 := cell_at (i := 0) n0 rfl
    have b2 := cell_at (i := 1) n0 rfl
    have b3 := cell_at (i := 2) n0 rfl
    have b4 := cell_at (i := 3) n0 rfl
    have b5 := cell_at (i := 4) n0 rfl
    have b6 : W3.cell? ⟨w.heap.size + 1, 0, none⟩ = some (.func (.func 52) #[] #[.pointer (some ⟨w.heap.size, 0, none⟩)]) := cell_at (i := 0) n1 rfl
    have c0 := kp W3 HB3.out _ _ _ HS.out.st.c0
    rw [HCC.out] at c0
    have c1 := kp W3 HB3.out _ _ _ HS.out.st.c1
    have c2 := kp W3 HB3.out _ _ _ HS.out.st.c2
    have c3 := kp W3 HB3.out _ _ _ HS.out.st.c3
    have c4 := kp W3 HB3.out _ _ _ HS.out.st.c4
    obtain ⟨xd, hxd⟩ : ∃ xd, s.dst = xd := ⟨_, rfl⟩
    obtain ⟨xa, hxa⟩ : ∃ xa, s.a = xa := ⟨_, rfl⟩
    obtain ⟨xb, hxb⟩ : ∃ xb, s.b = xb := ⟨_, rfl⟩
    obtain ⟨xc, hxc⟩ : ∃ xc, s.c = xc := ⟨_, rfl⟩
    have HXX : Hid (s.dst = xd ∧ s.a = xa ∧ s.b = xb ∧ s.c = xc) := ⟨hxd, hxa, hxb, hxc⟩
    rw [hxd] at c1
    rw [hxa] at c2
    rw [hxb] at c3
    rw [hxc] at c4
    have hl9 : (cd : Int) < 15 := by omega
    have t1 : decide ((cd : Int) < 1) = false := decide_eq_false (by omega)
    have t2 : decide ((15 : Int) ≤ (cd : Int)) = false := decide_eq_false (by omega)
    have HW3 : Hid (W3 = ((w.alloc (.cells #[.pointer (some ⟨fb, fo, none⟩)] 64)).alloc (.cells #[isV w.heap.size] 108)).alloc (.cells #[.int .i64 md, .int .i64 ma, .int .i64 mB, .int .i64 mc, .bool mg] 110)) := by show _ = _; rw [hW3, hW2]
    clear hr f0 f1 f2 f3 f4 kp hm hW3 hW2 HB2 hz2 e1 n0 n1 n2 hxd hxa hxb hxc k0
    go_enter Tryd.func37, Tryd.ntmps37
    go_upto_region 6 with fail
    rw [← HW3.out]
    clear k2 g0 g1 g2 g3 g4
    go_cut [75] (fun v wx => v = .bool (!(hasB F xd md && (hasB F xa ma && (hasB F xb mB && hasB F xc mc)))) ∧ ∃ nq, wx = W3.drewN nq)
    case first =>
      cases hb1 : hasB F xd md with
      | false =>
        have HB1 : Hid (hasB F xd md = false) := hb1
        clear hb1
        go_quiet ((go_at_call 53; exact Calls.quiet_of_same (HCh.out _ _ _ _ (by first | exact HB1.out))))
        go_wp2
        go_meet
        exact ⟨by rw [HB1.out]; rfl, _, rfl⟩
      | true =>
        have HB1 : Hid (hasB F xd md = true) := hb1
        clear hb1
        cases hb2 : hasB F xa ma with
        | false =>
          have HB2 : Hid (hasB F xa ma = false) := hb2
          clear hb2
          go_quiet ((go_at_call 53; exact Calls.quiet_of_same (HCh.out _ _ _ _ (by first | exact HB1.out | exact HB2.out))))
          go_wp2
          go_meet
          exact ⟨by rw [HB1.out, HB2.out]; rfl, _, rfl⟩
        | true =>
          have HB2 : Hid (hasB F xa ma = true) := hb2
          clear hb2
          cases hb3 : hasB F xb mB with
          | false =>
            have HB3 : Hid (hasB F xb mB = false) := hb3
            clear hb3
            go_quiet ((go_at_call 53; exact Calls.quiet_of_same (HCh.out _ _ _ _ (by first | exact HB1.out | exact HB2.out | exact HB3.out))))
            go_wp2
            go_meet
            exact ⟨by rw [HB1.out, HB2.out, HB3.out]; rfl, _, rfl⟩
          | true =>
            have HB3 : Hid (hasB F xb mB = true) := hb3
            clear hb3
            cases hb4 : hasB F xc mc with
            | false =>
              have HB4 : Hid (hasB F xc mc = false) := hb4
              clear hb4
              go_quiet ((go_at_call 53; exact Calls.quiet_of_same (HCh.out _ _ _ _ (by first | exact HB1.out | exact HB2.out | exact HB3.out | exact HB4.out))))
              go_wp2
              go_meet
              exact ⟨by rw [HB1.out, HB2.out, HB3.out, HB4.out]; rfl, _, rfl⟩
            | true =>
              have HB4 : Hid (hasB F xc mc = true) := hb4
              clear hb4
              go_quiet ((go_at_call 53; exact Calls.quiet_of_same (HCh.out _ _ _ _ (by first | exact HB1.out | exact HB2.out | exact HB3.out | exact HB4.out))))
              go_wp2
              go_meet
              exact ⟨by rw [HB1.out, HB2.out, HB3.out, HB4.out]; rfl, _, rfl⟩
    case rest =>
      obtain ⟨rfl, nq, hwc⟩ := hcut
      obtain ⟨W4, hw4⟩ : ∃ W4, W4 = wc := ⟨_, rfl⟩
      rw [← hw4] at hwc ⊢
      clear hw4
      have HB4 : Hid (Below w.heap.size w W4) := by rw [hwc]; exact HB3.out.trans ⟨rfl, rfl, rfl, Nat.le_refl _, fun _ _ => rfl⟩
      have d0 : W4.cell? ⟨sb, so, none⟩ = some (.int .i64 (cd : Int)) := by rw [hwc]; exact c0
      have d1 : W4.cell? ⟨sb, so + 1, none⟩ = some (.int .i64 xd) := by rw [hwc]; exact c1
      have d2 : W4.cell? ⟨sb, so + 2, none⟩ = some (.int .i64 xa) := by rw [hwc]; exact c2
      have d5 : W4.cell? ⟨w.heap.size + 2, 4, none⟩ = some (.bool mg) := by rw [hwc]; exact b5
      have d6 : W4.cell? ⟨w.heap.size + 1, 0, none⟩ = some (.func (.func 52) #[] #[.pointer (some ⟨w.heap.size, 0, none⟩)]) := by rw [hwc]; exact b6
      have HBy : Hid (∀ n, BoxF (W4.drewN n) w.heap.size F) := fun n => by rw [hwc, World.drewN_drewN]; exact HBx.out _
      have HB4n : Hid (∀ n, Below w.heap.size w (W4.drewN n)) := fun n => HB4.out.trans ⟨rfl, rfl, rfl, Nat.le_refl _, fun _ _ => rfl⟩
      clear b1 b2 b3 b4 b5 b6 c0 c1 c2 c3 c4 hwc HB3 HBx HCh HCi
      have HFin : Hid (∀ n b, stepB fs F s = b → G (.returned (.bool b)) (W4.drewN n)) := fun n b hb => by
        rw [← HG.out, hb]
        exact ⟨rfl, HB4n.out n⟩
      have HCj : Hid (∀ n p k b, isB F p k = b → Calls Tryd.prog 52 #[.int .i64 p, .int .i64 k, ptr w.heap.size] (W4.drewN n) (fun e w' => e = .returned (.bool b) ∧ w' = W4.drewN n)) := fun n p k b hb => by subst hb; exact is_any _ w.heap.size F p k (HBy.out n)
      have HSb : Hid (stepB fs F s = ((hasB F xd md && (hasB F xa ma && (hasB F xb mB && hasB F xc mc))) && ((!mg || (labOf F.steps s.label).isSome) && besB fs F s))) := by
        show _ = _
        rw [sb_yes HCC.out HR.out.1 HR.out.2, HM.out]
        unfold allB
        rw [HXX.out.1, HXX.out.2.1, HXX.out.2.2.1, HXX.out.2.2.2]
      cases hal : (hasB F xd md && (hasB F xa ma && (hasB F xb mB && hasB F xc mc))) with
      | false =>
        have HE : Hid (∀ n, G (.returned (.bool false)) (W4.drewN n)) := fun n => HFin.out n false (by rw [HSb.out, hal]; rfl)
        clear hal
        go_wp2
        exact HE.out 0
      | true =>
        have HSc : Hid (stepB fs F s = ((!mg || (labOf F.steps s.label).isSome) && besB fs F s)) := by show _ = _; rw [HSb.out, hal]; rfl
        clear hal
        have kp : ∀ W, Below w.heap.size w W → ∀ (b o : Nat) (v : Value), w.cell? ⟨b, o, none⟩ = some v → W.cell? ⟨b, o, none⟩ = some v := fun W hb b o v hv => by rw [hb.cell (p := ⟨b, o, none⟩) (cell_lt hv)]; exact hv
        have c7 := kp W4 HB4.out _ _ _ HS.out.st.c7
        have c6 := kp W4 HB4.out _ _ _ HS.out.st.c6
        have c8 := kp W4 HB4.out _ _ _ HS.out.st.c8
        obtain ⟨ml, hml⟩ := HS.out.lab
        have lk := (hml.kept (HB4.out.block _ hml.lt)).look2 kdI und69 (zero3 _) (key_i s.label HS.out.st.i1.2.2.2.2.2.2)
        obtain ⟨lv, hlv⟩ : ∃ lv, lv = (labF F.steps (.int .i64 s.label)).getD (.int .i64 0) := ⟨_, rfl⟩
        obtain ⟨th, hth⟩ : ∃ th, th = (labF F.steps (.int .i64 s.label)).isSome := ⟨_, rfl⟩
        rw [← hlv, ← hth] at lk
        have HTh : Hid ((labOf F.steps s.label).isSome = th) := by
          show _ = _
          rw [hth]
          show _ = ((labOf F.steps s.label).map _).isSome
          rw [Option.isSome_map]
        obtain ⟨x7, hx7⟩ : ∃ x7, s.label = x7 := ⟨_, rfl⟩
        obtain ⟨y6, hy6⟩ : ∃ y6 : ByteArray, y6 = ⟨s.op.toArray⟩ := ⟨_, rfl⟩
        obtain ⟨y8, hy8⟩ : ∃ y8 : ByteArray, y8 = ⟨s.name.toArray⟩ := ⟨_, rfl⟩
        rw [hx7] at c7 lk
        rw [← hy6] at c6
        rw [← hy8] at c8
        have HY : Hid (y6.data.toList = s.op ∧ y8.data.toList = s.name) := ⟨by rw [hy6], by rw [hy8]⟩
        have HY8 : Hid (y8 = ⟨s.name.toArray⟩) := hy8
        clear hml hlv hth hx7 hy6 hy8 kp
        cases mg with
        | true =>
          have h45 : cd = 4 ∨ cd = 5 := frm_g (by rw [HM.out])
          have u2 : ((cd : Int) == 2) = false := by rcases h45 with rfl | rfl <;> rfl
          have u3 : ((cd : Int) == 3) = false := by rcases h45 with rfl | rfl <;> rfl
          have u7 : ((cd : Int) == 7) = false := by rcases h45 with rfl | rfl <;> rfl
          have HBs : Hid (besB fs F s = true) := by
            show _ = _
            unfold besB
            rw [HCC.out, if_neg (by omega), if_neg (by omega), if_neg (by omega)]
          clear h45
          cases th with
          | true =>
            have HE : Hid (∀ n, G (.returned (.bool true)) (W4.drewN n)) := fun n => HFin.out n true (by rw [HSc.out, HTh.out, HBs.out]; rfl)
            go_wp2
            exact HE.out 0
          | false =>
            have HE : Hid (∀ n, G (.returned (.bool false)) (W4.drewN n)) := fun n => HFin.out n false (by rw [HSc.out, HTh.out]; rfl)
            go_wp2
            exact HE.out 0
        | false =>
          have HSd : Hid (stepB fs F s = besB fs F s) := by show _ = _; rw [HSc.out]; rfl
          by_cases q2 : cd = 2
          · subst q2
            have HBs : Hid (besB fs F s = ((isB F xd 1 && isB F xa 1) || (isB F xd 2 && isB F xa 2))) := by
              show _ = _
              unfold besB
              rw [HCC.out, if_pos (by omega), HXX.out.1, HXX.out.2.1]
            cases hd1 : isB F xd 1 with
            | false =>
              have HD1 : Hid (isB F xd 1 = false) := hd1
              clear hd1
              cases hd2 : isB F xd 2 with
              | false =>
                have HD2 : Hid (isB F xd 2 = false) := hd2
                clear hd2
                have HE : Hid (∀ n, G (.returned (.bool (false))) (W4.drewN n)) := fun n => HFin.out n _ (by rw [HSd.out, HBs.out, HD1.out, HD2.out]; simp)
                go_wp2_with fail
                go_quiet ((go_at_call 52; exact Calls.quiet_of_same (HCj.out _ _ _ _ (by first | exact HD1.out | exact HD2.out | rfl))))
                go_wp2
                exact HE.out _
              | true =>
                have HD2 : Hid (isB F xd 2 = true) := hd2
                clear hd2
                have HE : Hid (∀ n, G (.returned (.bool (isB F xa 2))) (W4.drewN n)) := fun n => HFin.out n _ (by rw [HSd.out, HBs.out, HD1.out, HD2.out]; simp)
                go_wp2_with fail
                go_quiet ((go_at_call 52; exact Calls.quiet_of_same (HCj.out _ _ _ _ (by first | exact HD1.out | exact HD2.out | rfl))))
                go_wp2
                exact HE.out _
            | true =>
              have HD1 : Hid (isB F xd 1 = true) := hd1
              clear hd1
              cases ha1 : isB F xa 1 with
              | false =>
                have HA1 : Hid (isB F xa 1 = false) := ha1
                clear ha1
                cases hd2 : isB F xd 2 with
                | false =>
                  have HD2 : Hid (isB F xd 2 = false) := hd2
                  clear hd2
                  have HE : Hid (∀ n, G (.returned (.bool (false))) (W4.drewN n)) := fun n => HFin.out n _ (by rw [HSd.out, HBs.out, HD1.out, HA1.out, HD2.out]; simp)
                  go_wp2_with fail
                  go_quiet ((go_at_call 52; exact Calls.quiet_of_same (HCj.out _ _ _ _ (by first | exact HD1.out | exact HA1.out | exact HD2.out | rfl))))
                  go_wp2
                  exact HE.out _
                | true =>
                  have HD2 : Hid (isB F xd 2 = true) := hd2
                  clear hd2
                  have HE : Hid (∀ n, G (.returned (.bool (isB F xa 2))) (W4.drewN n)) := fun n => HFin.out n _ (by rw [HSd.out, HBs.out, HD1.out, HA1.out, HD2.out]; simp)
                  go_wp2_with fail
                  go_quiet ((go_at_call 52; exact Calls.quiet_of_same (HCj.out _ _ _ _ (by first | exact HD1.out | exact HA1.out | exact HD2.out | rfl))))
                  go_wp2
                  exact HE.out _
              | true =>
                have HA1 : Hid (isB F xa 1 = true) := ha1
                clear ha1
                have HE : Hid (∀ n, G (.returned (.bool (true))) (W4.drewN n)) := fun n => HFin.out n _ (by rw [HSd.out, HBs.out, HD1.out, HA1.out]; simp)
                go_wp2_with fail
                go_quiet ((go_at_call 52; exact Calls.quiet_of_same (HCj.out _ _ _ _ (by first | exact HD1.out | exact HA1.out | rfl))))
                go_wp2
                exact HE.out _
          by_cases q3 : cd = 3
          · subst q3
            have HBs : Hid (besB fs F s = markB s.op) := by
              show _ = _
              unfold besB
              rw [HCC.out]
              rfl
            have HE : Hid (∀ n, G (.returned (.bool (markB y6.data.toList))) (W4.drewN n)) := fun n => HFin.out n _ (by rw [HSd.out, HBs.out, HY.out.1])
            have HCm : Hid (∀ n, Calls Tryd.prog 54 #[.string y6] (W4.drewN n) (LqP (markB y6.data.toList) (W4.drewN n))) := fun n => mark_any _ y6 (fun j hj => by rw [← HS.out.mks j hj]; exact (HB4n.out n).cell (p := ⟨1, j, none⟩) (cell_lt (HS.out.mks j hj)))
            go_wp2_with (go_at_call 54; refine (HCm.out 0).mono ?_; rintro e w' ⟨rfl, rfl⟩)
            exact HE.out 0
          by_cases q7 : cd = 7
          · subst q7
            have HBs : Hid (besB fs F s = fitsB F (fs s.name) s.args) := by
              show _ = _
              unfold besB
              rw [HCC.out]
              rfl
            obtain ⟨f9, n9, hm9, hf9⟩ := HS.out.by'
            rcases hf9 with ⟨a1, a2⟩ | ⟨gb', go', GG, a1, a2, a3, a4⟩
            · skip
              have lk8 : ∀ n, (Instr.lookup 62 (.map (some nb)) (.string y8) false).run Tryd.prog (W4.drewN n) = .ok (.pointer none) (W4.drewN n) := fun n => by
                have := (hm9.kept ((HB4n.out n).block _ hm9.lt)).look kdS und62 (zero64 _) (key_s y8 (by rw [HY8.out]; have := HS.out.st.i2.2; simpa [ByteArray.size] using this))
                rw [HY.out.2, a1] at this
                exact this
              have HE : Hid (∀ n, G (.returned (.bool false)) (W4.drewN n)) := fun n => HFin.out n _ (by rw [HSd.out, HBs.out, a2]; rfl)
              have HCf : Hid (∀ n, Calls Tryd.prog 55 #[.pointer (some ⟨sb, so, none⟩), .pointer none, isV w.heap.size] (W4.drewN n) (fun e w' => e = .returned (.bool false) ∧ ∃ m, w' = (W4.drewN n).drewN m)) := fun n => (fits_none _ sb so w.heap.size s F).mono (fun e w' h => ⟨h.1, 1, h.2⟩)
              clear a1 a2 hm9
              go_wp2_with fail
              go_quiet ((go_at_call 55; exact Calls.quiet_of (HCf.out _)))
              go_wp2
              exact HE.out _
            · have lk8 : ∀ n, (Instr.lookup 62 (.map (some nb)) (.string y8) false).run Tryd.prog (W4.drewN n) = .ok (.pointer (some ⟨gb', go', none⟩)) (W4.drewN n) := fun n => by
                have := (hm9.kept ((HB4n.out n).block _ hm9.lt)).look kdS und62 (zero64 _) (key_s y8 (by rw [HY8.out]; have := HS.out.st.i2.2; simpa [ByteArray.size] using this))
                rw [HY.out.2, a1] at this
                exact this
              have HE : Hid (∀ n, G (.returned (.bool (fitsB F (some GG) s.args))) (W4.drewN n)) := fun n => HFin.out n _ (by rw [HSd.out, HBs.out, a2])
              have HCf : Hid (∀ n, Calls Tryd.prog 55 #[.pointer (some ⟨sb, so, none⟩), .pointer (some ⟨gb', go', none⟩), isV w.heap.size] (W4.drewN n) (fun e w' => e = .returned (.bool (fitsB F (some GG) s.args)) ∧ ∃ m, w' = (W4.drewN n).drewN m)) := fun n => (fits_any _ sb so w.heap.size gb' go' s F GG (HS.out.st.below (HB4n.out n)) (HBy.out n) (a3.below (HB4n.out n)) a4).mono (fun e w' h => ⟨h.1, 1, h.2⟩)
              clear a1 a2 a3 a4 hm9
              go_wp2_with fail
              go_quiet ((go_at_call 55; exact Calls.quiet_of (HCf.out _)))
              go_wp2
              exact HE.out _
          have u2 : ((cd : Int) == 2) = false := by simpa using (by omega : ¬ (cd : Int) = 2)
          have u3 : ((cd : Int) == 3) = false := by simpa using (by omega : ¬ (cd : Int) = 3)
          have u7 : ((cd : Int) == 7) = false := by simpa using (by omega : ¬ (cd : Int) = 7)
          have HBs : Hid (besB fs F s = true) := by
            show _ = _
            unfold besB
            rw [HCC.out, if_neg (by omega), if_neg (by omega), if_neg (by omega)]
          have HE : Hid (∀ n, G (.returned (.bool true)) (W4.drewN n)) := fun n => HFin.out n true (by rw [HSd.out, HBs.out])
          clear q2 q3 q7
          go_wp2
          exact HE.out 0
  · have HE : Hid (G (.returned (.bool false)) W2) := by show G _ _; rw [← HG.out, sb_no (by rw [HCC.out]; exact hr)]; exact ⟨rfl, HB2.out⟩
    rw [hW2] at HE
    clear hW2 HB2 e1
    by_cases h1 : cc < 1
    · have t1 : decide (cc < 1) = true := decide_eq_true h1
      go_enter Tryd.func37, Tryd.ntmps37
      go_wp2
      exact HE.out
    · have t1 : decide (cc < 1) = false := decide_eq_false h1
      have t2 : decide (15 ≤ cc) = true := decide_eq_true (by omega)
      go_enter Tryd.func37, Tryd.ntmps37
      go_wp2
      exact HE.out
end Go.Proofs.YtjmbjpimabnohaaDoor.Mid
