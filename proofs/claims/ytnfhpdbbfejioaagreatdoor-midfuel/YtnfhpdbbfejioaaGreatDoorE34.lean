/- QG QH -/
import Derived.Test.YtnfhpdbbfejioaaGreatDoorE33
namespace Go.Proofs.YtnfhpdbbfejioaaGreatDoor.Mid
set_option linter.unusedVariables false
set_option linter.unusedSimpArgs false
set_option maxRecDepth 100000
set_option maxHeartbeats 16000000
open Go Go.RowKit
structure Frm where
  d : Int
  a : Int
  b : Int
  c : Int
  g : Bool
def frm : Nat → Frm
  | 1 => ⟨1, 0, 0, 0, false⟩
  | 3 => ⟨1, 1, 1, 0, false⟩
  | 4 => ⟨0, 0, 0, 0, true⟩
  | 5 => ⟨0, 1, 0, 0, true⟩
  | 7 => ⟨1, 0, 0, 0, false⟩
  | 8 => ⟨0, 1, 0, 0, false⟩
  | 9 => ⟨2, 1, 0, 0, false⟩
  | 10 => ⟨1, 2, 0, 0, false⟩
  | 11 => ⟨1, 2, 1, 0, false⟩
  | 12 => ⟨0, 2, 1, 1, false⟩
  | 13 => ⟨0, 1, 0, 0, false⟩
  | 14 => ⟨1, 0, 0, 0, false⟩
  | _ => ⟨0, 0, 0, 0, false⟩
def FmE (w : World) : Prop := ∀ j, j < 15 → w.cell? ⟨3, j * 5, none⟩ = some (.int .i64 (frm j).d) ∧ w.cell? ⟨3, j * 5 + 1, none⟩ = some (.int .i64 (frm j).a) ∧ w.cell? ⟨3, j * 5 + 2, none⟩ = some (.int .i64 (frm j).b) ∧ w.cell? ⟨3, j * 5 + 3, none⟩ = some (.int .i64 (frm j).c) ∧ w.cell? ⟨3, j * 5 + 4, none⟩ = some (.bool (frm j).g)
def besB (fs : By → Option Mf) (F : Mf) (s : Ms) : Bool :=
  if s.code = 2 then (isB F s.dst 1 && isB F s.a 1) || (isB F s.dst 2 && isB F s.a 2)
  else if s.code = 3 then markB s.op
  else if s.code = 7 then fitsB F (fs s.name) s.args
  else true
def allB (F : Mf) (s : Ms) (m : Frm) : Bool := qF F s.dst m.d && (qF F s.a m.a && (qF F s.b m.b && qF F s.c m.c))
def qN (fs : By → Option Mf) (F : Mf) (s : Ms) : Bool :=
  decide (1 ≤ s.code ∧ s.code ≤ 14) && (allB F s (frm s.code.toNat) && ((!(frm s.code.toNat).g || (zJ F.steps s.label).isSome) && besB fs F s))
structure StE (w : World) (fs : By → Option Mf) (fb fo sb so mb nb : Nat) (F : Mf) (s : Ms) : Prop where
  fn : FnAt w fb fo F
  st : StepAt w sb so s
  fm : FmE w
  mks : MkE w
  lab : ∃ n, Mp 3 w mb (labF F.steps) n
  by' : ∃ f n, Mp 9 w nb f n ∧ ((f (.string s.name) = none ∧ fs s.name = none) ∨ ∃ gb go G, f (.string s.name) = some (.pointer (some ⟨gb, go, none⟩)) ∧ fs s.name = some G ∧ FnAt w gb go G ∧ zy G = true)
theorem sb_no {fs : By → Option Mf} {F : Mf} {s : Ms} (h : ¬ (1 ≤ s.code ∧ s.code ≤ 14)) : qN fs F s = false := by unfold qN; rw [decide_eq_false h]; rfl
theorem sb_yes {fs : By → Option Mf} {F : Mf} {s : Ms} {cd : Nat} (h : s.code = cd) (h1 : 1 ≤ cd) (h2 : cd ≤ 14) : qN fs F s = (allB F s (frm cd) && ((!(frm cd).g || (zJ F.steps s.label).isSome) && besB fs F s)) := by
  unfold qN; rw [decide_eq_true (by omega), h, Int.toNat_natCast]; rfl
theorem frm_g {cd : Nat} (h : (frm cd).g = true) : cd = 4 ∨ cd = 5 := by
  unfold frm at h
  split at h <;> simp_all
theorem step_any (w : World) (fs : By → Option Mf) (fb fo sb so mb nb : Nat) (F : Mf) (s : Ms) (h : StE w fs fb fo sb so mb nb F s) :
    Calls Tryz.prog 77 #[.pointer (some ⟨fb, fo, none⟩), .pointer (some ⟨sb, so, none⟩), .map (some mb), .map (some nb)] w (LkP (qN fs F s) w) := by
  have k0 := h.st.c0
  have HS : Hid (StE w fs fb fo sb so mb nb F s) := h
  obtain ⟨cc, hcc⟩ : ∃ cc, s.code = cc := ⟨_, rfl⟩
  rw [hcc] at k0
  have HCC : Hid (s.code = cc) := hcc
  generalize hG : LkP (qN fs F s) w = G
  have HG : Hid (LkP (qN fs F s) w = G) := hG
  clear h hG hcc
  have e1 : ∀ W, Below w.heap.size w W → W.cell? ⟨sb, so, none⟩ = some (.int .i64 cc) := fun W hb => by rw [hb.cell (p := ⟨sb, so, none⟩) (zz k0)]; exact k0
  obtain ⟨W2, hW2⟩ : ∃ W2, W2 = (w.alloc (.cells #[.pointer (some ⟨fb, fo, none⟩)] 109)).alloc (.cells #[isV w.heap.size] 216) := ⟨_, rfl⟩
  have HB2 : Hid (Below w.heap.size w W2) := by rw [hW2]; exact (qC _ _).trans ((qC _ _).mono (by simp))
  have k2 := e1 W2 HB2.out
  rw [hW2] at k2
  by_cases hr : 1 ≤ cc ∧ cc ≤ 14
  · obtain ⟨cd, rfl⟩ : ∃ cd : Nat, cc = cd := ⟨cc.toNat, by omega⟩
    have HR : Hid (1 ≤ cd ∧ cd ≤ 14) := ⟨by omega, by omega⟩
    obtain ⟨f0, f1, f2, f3, f4⟩ := HS.out.fm cd (by omega)
    obtain ⟨m, hm⟩ : ∃ m, frm cd = m := ⟨_, rfl⟩
    rw [hm] at f0 f1 f2 f3 f4
    obtain ⟨md, ma, mB, mc, mg⟩ := m
    have HM : Hid (frm cd = ⟨md, ma, mB, mc, mg⟩) := hm
    dsimp only at f0 f1 f2 f3 f4
    have kp : ∀ W, Below w.heap.size w W → ∀ (b o : Nat) (v : Value), w.cell? ⟨b, o, none⟩ = some v → W.cell? ⟨b, o, none⟩ = some v := fun W hb b o v hv => by rw [hb.cell (p := ⟨b, o, none⟩) (zz hv)]; exact hv
    have g0 := kp W2 HB2.out _ _ _ f0
    have g1 := kp W2 HB2.out _ _ _ f1
    have g2 := kp W2 HB2.out _ _ _ f2
    have g3 := kp W2 HB2.out _ _ _ f3
    have g4 := kp W2 HB2.out _ _ _ f4
    rw [hW2] at g0 g1 g2 g3 g4
    obtain ⟨W3, hW3⟩ : ∃ W3, W3 = W2.alloc (.cells #[.int .i64 md, .int .i64 ma, .int .i64 mB, .int .i64 mc, .bool mg] 218) := ⟨_, rfl⟩
    have hz2 : W2.heap.size = w.heap.size + 2 := by rw [hW2]; simp
    have HB3 : Hid (Below w.heap.size w W3) := by rw [hW3]; exact HB2.out.trans ((qC _ _).mono (by omega))
    have n0 : W3.heap[w.heap.size + 2]? = some (.cells #[.int .i64 md, .int .i64 ma, .int .i64 mB, .int .i64 mc, .bool mg] 218) := by rw [hW3, ← hz2]; exact heap_alloc_last _ _
    have n1 : W3.heap[w.heap.size + 1]? = some (.cells #[isV w.heap.size] 216) := by
      rw [hW3, zc (by omega), hW2]
      have := heap_alloc_last (w.alloc (.cells #[.pointer (some ⟨fb, fo, none⟩)] 109)) (.cells #[isV w.heap.size] 216)
      simpa using this
    have n2 : W3.heap[w.heap.size]? = some (.cells #[.pointer (some ⟨fb, fo, none⟩)] 109) := by
      rw [hW3, zc (by omega), hW2, zc (by simp)]
      exact heap_alloc_last _ _
    have HBx : Hid (∀ n, BoxF (W3.drewN n) w.heap.size F) := fun n => ⟨fb, fo, z_ (w := W3) (i := 0) n2 rfl, (HS.out.fn.below HB3.out).below ⟨rfl, rfl, rfl, Nat.le_refl _, fun _ _ => rfl⟩⟩
    have HCh : Hid (∀ n p k b, qF F p k = b → Calls Tryz.prog 113 #[.int .i64 p, .int .i64 k, ptr (w.heap.size + 1)] (W3.drewN n) (fun e w' => e = .returned (.bool b) ∧ w' = W3.drewN n)) := fun n p k b hb => by subst hb; exact has_any _ w.heap.size _ F p k (HBx.out n) (z_ (w := W3) (i := 0) n1 rfl)
    have HCi : Hid (∀ n p k b, isB F p k = b → Calls Tryz.prog 112 #[.int .i64 p, .int .i64 k, ptr w.heap.size] (W3.drewN n) (fun e w' => e = .returned (.bool b) ∧ w' = W3.drewN n)) := fun n p k b hb => by subst hb; exact is_any _ w.heap.size F p k (HBx.out n)
    have b1 := z_ (i := 0) n0 rfl
    have b2 := z_ (i := 1) n0 rfl
    have b3 := z_ (i := 2) n0 rfl
    have b4 := z_ (i := 3) n0 rfl
    have b5 := z_ (i := 4) n0 rfl
    have b6 : W3.cell? ⟨w.heap.size + 1, 0, none⟩ = some (.func (.func 112) #[] #[.pointer (some ⟨w.heap.size, 0, none⟩)]) := z_ (i := 0) n1 rfl
    have c0 := kp W3 HB3.out _ _ _ HS.out.st.c0
    rw [HCC.out] at c0
    have c1 := kp W3 HB3.out _ _ _ HS.out.st.c1
    have c2 := kp W3 HB3.out _ _ _ HS.out.st.c2
    have c3 := kp W3 HB3.out _ _ _ HS.out.st.c3
    have c4 := kp W3 HB3.out _ _ _ HS.out.st.c4
    obtain ⟨xd, hxd⟩ : ∃ xd, s.dst = xd := ⟨_, rfl⟩
    obtain ⟨xa, hxa⟩ : ∃ xa, s.a = xa := ⟨_, rfl⟩
    obtain ⟨xb, hxb⟩ : ∃ xb, s.b = xb := ⟨_, rfl⟩
    obtain ⟨xc, hxc⟩ : ∃ xc, s.c = xc := ⟨_, rfl⟩
    have HXX : Hid (s.dst = xd ∧ s.a = xa ∧ s.b = xb ∧ s.c = xc) := ⟨hxd, hxa, hxb, hxc⟩
    rw [hxd] at c1
    rw [hxa] at c2
    rw [hxb] at c3
    rw [hxc] at c4
    have hl9 : (cd : Int) < 15 := by omega
    have t1 : decide ((cd : Int) < 1) = false := decide_eq_false (by omega)
    have t2 : decide ((15 : Int) ≤ (cd : Int)) = false := decide_eq_false (by omega)
    have HW3 : Hid (W3 = ((w.alloc (.cells #[.pointer (some ⟨fb, fo, none⟩)] 109)).alloc (.cells #[isV w.heap.size] 216)).alloc (.cells #[.int .i64 md, .int .i64 ma, .int .i64 mB, .int .i64 mc, .bool mg] 218)) := by show _ = _; rw [hW3, hW2]
    clear hr f0 f1 f2 f3 f4 kp hm hW3 hW2 HB2 hz2 e1 n0 n1 n2 hxd hxa hxb hxc k0
    go_enter Tryz.func77, Tryz.ntmps77
    go_upto_region 6 with fail
    rw [← HW3.out]
    clear k2 g0 g1 g2 g3 g4
    go_cut [75] (fun v wx => v = .bool (!(qF F xd md && (qF F xa ma && (qF F xb mB && qF F xc mc)))) ∧ ∃ nq, wx = W3.drewN nq)
    case first =>
      cases hb1 : qF F xd md with
      | false =>
        have HB1 : Hid (qF F xd md = false) := hb1
        clear hb1
        go_quiet ((go_at_call 113; exact Calls.quiet_of_same (HCh.out _ _ _ _ (by first | exact HB1.out))))
        go_wp2
        go_meet
        exact ⟨by rw [HB1.out]; rfl, _, rfl⟩
      | true =>
        have HB1 : Hid (qF F xd md = true) := hb1
        clear hb1
        cases hb2 : qF F xa ma with
        | false =>
          have HB2 : Hid (qF F xa ma = false) := hb2
          clear hb2
          go_quiet ((go_at_call 113; exact Calls.quiet_of_same (HCh.out _ _ _ _ (by first | exact HB1.out | exact HB2.out))))
          go_wp2
          go_meet
          exact ⟨by rw [HB1.out, HB2.out]; rfl, _, rfl⟩
        | true =>
          have HB2 : Hid (qF F xa ma = true) := hb2
          clear hb2
          cases hb3 : qF F xb mB with
          | false =>
            have HB3 : Hid (qF F xb mB = false) := hb3
            clear hb3
            go_quiet ((go_at_call 113; exact Calls.quiet_of_same (HCh.out _ _ _ _ (by first | exact HB1.out | exact HB2.out | exact HB3.out))))
            go_wp2
            go_meet
            exact ⟨by rw [HB1.out, HB2.out, HB3.out]; rfl, _, rfl⟩
          | true =>
            have HB3 : Hid (qF F xb mB = true) := hb3
            clear hb3
            cases hb4 : qF F xc mc with
            | false =>
              have HB4 : Hid (qF F xc mc = false) := hb4
              clear hb4
              go_quiet ((go_at_call 113; exact Calls.quiet_of_same (HCh.out _ _ _ _ (by first | exact HB1.out | exact HB2.out | exact HB3.out | exact HB4.out))))
              go_wp2
              go_meet
              exact ⟨by rw [HB1.out, HB2.out, HB3.out, HB4.out]; rfl, _, rfl⟩
            | true =>
              have HB4 : Hid (qF F xc mc = true) := hb4
              clear hb4
              go_quiet ((go_at_call 113; exact Calls.quiet_of_same (HCh.out _ _ _ _ (by first | exact HB1.out | exact HB2.out | exact HB3.out | exact HB4.out))))
              go_wp2
              go_meet
              exact ⟨by rw [HB1.out, HB2.out, HB3.out, HB4.out]; rfl, _, rfl⟩
    case rest =>
      obtain ⟨rfl, nq, hwc⟩ := hcut
      obtain ⟨W4, hw4⟩ : ∃ W4, W4 = wc := ⟨_, rfl⟩
      rw [← hw4] at hwc ⊢
      clear hw4
      have HB4 : Hid (Below w.heap.size w W4) := by rw [hwc]; exact HB3.out.trans ⟨rfl, rfl, rfl, Nat.le_refl _, fun _ _ => rfl⟩
      have d0 : W4.cell? ⟨sb, so, none⟩ = some (.int .i64 (cd : Int)) := by rw [hwc]; exact c0
      have d1 : W4.cell? ⟨sb, so + 1, none⟩ = some (.int .i64 xd) := by rw [hwc]; exact c1
      have d2 : W4.cell? ⟨sb, so + 2, none⟩ = some (.int .i64 xa) := by rw [hwc]; exact c2
      have d5 : W4.cell? ⟨w.heap.size + 2, 4, none⟩ = some (.bool mg) := by rw [hwc]; exact b5
      have d6 : W4.cell? ⟨w.heap.size + 1, 0, none⟩ = some (.func (.func 112) #[] #[.pointer (some ⟨w.heap.size, 0, none⟩)]) := by rw [hwc]; exact b6
      have HBy : Hid (∀ n, BoxF (W4.drewN n) w.heap.size F) := fun n => by rw [hwc, World.drewN_drewN]; exact HBx.out _
      have HB4n : Hid (∀ n, Below w.heap.size w (W4.drewN n)) := fun n => HB4.out.trans ⟨rfl, rfl, rfl, Nat.le_refl _, fun _ _ => rfl⟩
      clear b1 b2 b3 b4 b5 b6 c0 c1 c2 c3 c4 hwc HB3 HBx HCh HCi
      have HFin : Hid (∀ n b, qN fs F s = b → G (.returned (.bool b)) (W4.drewN n)) := fun n b hb => by
        rw [← HG.out, hb]
        exact ⟨rfl, HB4n.out n⟩
      have HCj : Hid (∀ n p k b, isB F p k = b → Calls Tryz.prog 112 #[.int .i64 p, .int .i64 k, ptr w.heap.size] (W4.drewN n) (fun e w' => e = .returned (.bool b) ∧ w' = W4.drewN n)) := fun n p k b hb => by subst hb; exact is_any _ w.heap.size F p k (HBy.out n)
      have HSb : Hid (qN fs F s = ((qF F xd md && (qF F xa ma && (qF F xb mB && qF F xc mc))) && ((!mg || (zJ F.steps s.label).isSome) && besB fs F s))) := by
        show _ = _
        rw [sb_yes HCC.out HR.out.1 HR.out.2, HM.out]
        unfold allB
        rw [HXX.out.1, HXX.out.2.1, HXX.out.2.2.1, HXX.out.2.2.2]
      cases hal : (qF F xd md && (qF F xa ma && (qF F xb mB && qF F xc mc))) with
      | false =>
        have HE : Hid (∀ n, G (.returned (.bool false)) (W4.drewN n)) := fun n => HFin.out n false (by rw [HSb.out, hal]; rfl)
        clear hal
        go_wp2
        exact HE.out 0
      | true =>
        have HSc : Hid (qN fs F s = ((!mg || (zJ F.steps s.label).isSome) && besB fs F s)) := by show _ = _; rw [HSb.out, hal]; rfl
        clear hal
        have kp : ∀ W, Below w.heap.size w W → ∀ (b o : Nat) (v : Value), w.cell? ⟨b, o, none⟩ = some v → W.cell? ⟨b, o, none⟩ = some v := fun W hb b o v hv => by rw [hb.cell (p := ⟨b, o, none⟩) (zz hv)]; exact hv
        have c7 := kp W4 HB4.out _ _ _ HS.out.st.c7
        have c6 := kp W4 HB4.out _ _ _ HS.out.st.c6
        have c8 := kp W4 HB4.out _ _ _ HS.out.st.c8
        obtain ⟨ml, hml⟩ := HS.out.lab
        have lk := (hml.kept (HB4.out.block _ hml.lt)).look2 kdI und69 (zero3 _) (key_i s.label HS.out.st.i1.2.2.2.2.2.2)
        obtain ⟨lv, hlv⟩ : ∃ lv, lv = (labF F.steps (.int .i64 s.label)).getD (.int .i64 0) := ⟨_, rfl⟩
        obtain ⟨th, hth⟩ : ∃ th, th = (labF F.steps (.int .i64 s.label)).isSome := ⟨_, rfl⟩
        rw [← hlv, ← hth] at lk
        have HTh : Hid ((zJ F.steps s.label).isSome = th) := by
          show _ = _
          rw [hth]
          show _ = ((zJ F.steps s.label).map _).isSome
          rw [Option.isSome_map]
        obtain ⟨x7, hx7⟩ : ∃ x7, s.label = x7 := ⟨_, rfl⟩
        obtain ⟨y6, hy6⟩ : ∃ y6 : ByteArray, y6 = ⟨s.op.toArray⟩ := ⟨_, rfl⟩
        obtain ⟨y8, hy8⟩ : ∃ y8 : ByteArray, y8 = ⟨s.name.toArray⟩ := ⟨_, rfl⟩
        rw [hx7] at c7 lk
        rw [← hy6] at c6
        rw [← hy8] at c8
        have HY : Hid (y6.data.toList = s.op ∧ y8.data.toList = s.name) := ⟨by rw [hy6], by rw [hy8]⟩
        have HY8 : Hid (y8 = ⟨s.name.toArray⟩) := hy8
        clear hml hlv hth hx7 hy6 hy8 kp
        cases mg with
        | true =>
          have h45 : cd = 4 ∨ cd = 5 := frm_g (by rw [HM.out])
          have u2 : ((cd : Int) == 2) = false := by rcases h45 with rfl | rfl <;> rfl
          have u3 : ((cd : Int) == 3) = false := by rcases h45 with rfl | rfl <;> rfl
          have u7 : ((cd : Int) == 7) = false := by rcases h45 with rfl | rfl <;> rfl
          have HBs : Hid (besB fs F s = true) := by
            show _ = _
            unfold besB
            rw [HCC.out, if_neg (by omega), if_neg (by omega), if_neg (by omega)]
          clear h45
          cases th with
          | true =>
            have HE : Hid (∀ n, G (.returned (.bool true)) (W4.drewN n)) := fun n => HFin.out n true (by rw [HSc.out, HTh.out, HBs.out]; rfl)
            go_wp2
            exact HE.out 0
          | false =>
            have HE : Hid (∀ n, G (.returned (.bool false)) (W4.drewN n)) := fun n => HFin.out n false (by rw [HSc.out, HTh.out]; rfl)
            go_wp2
            exact HE.out 0
        | false =>
          have HSd : Hid (qN fs F s = besB fs F s) := by show _ = _; rw [HSc.out]; rfl
          by_cases q2 : cd = 2
          · subst q2
            have HBs : Hid (besB fs F s = ((isB F xd 1 && isB F xa 1) || (isB F xd 2 && isB F xa 2))) := by
              show _ = _
              unfold besB
              rw [HCC.out, if_pos (by omega), HXX.out.1, HXX.out.2.1]
            cases hd1 : isB F xd 1 with
            | false =>
              have HD1 : Hid (isB F xd 1 = false) := hd1
              clear hd1
              cases hd2 : isB F xd 2 with
              | false =>
                have HD2 : Hid (isB F xd 2 = false) := hd2
                clear hd2
                have HE : Hid (∀ n, G (.returned (.bool (false))) (W4.drewN n)) := fun n => HFin.out n _ (by rw [HSd.out, HBs.out, HD1.out, HD2.out]; simp)
                go_wp2_with fail
                go_quiet ((go_at_call 112; exact Calls.quiet_of_same (HCj.out _ _ _ _ (by first | exact HD1.out | exact HD2.out | rfl))))
                go_wp2
                exact HE.out _
              | true =>
                have HD2 : Hid (isB F xd 2 = true) := hd2
                clear hd2
                have HE : Hid (∀ n, G (.returned (.bool (isB F xa 2))) (W4.drewN n)) := fun n => HFin.out n _ (by rw [HSd.out, HBs.out, HD1.out, HD2.out]; simp)
                go_wp2_with fail
                go_quiet ((go_at_call 112; exact Calls.quiet_of_same (HCj.out _ _ _ _ (by first | exact HD1.out | exact HD2.out | rfl))))
                go_wp2
                exact HE.out _
            | true =>
              have HD1 : Hid (isB F xd 1 = true) := hd1
              clear hd1
              cases ha1 : isB F xa 1 with
              | false =>
                have HA1 : Hid (isB F xa 1 = false) := ha1
                clear ha1
                cases hd2 : isB F xd 2 with
                | false =>
                  have HD2 : Hid (isB F xd 2 = false) := hd2
                  clear hd2
                  have HE : Hid (∀ n, G (.returned (.bool (false))) (W4.drewN n)) := fun n => HFin.out n _ (by rw [HSd.out, HBs.out, HD1.out, HA1.out, HD2.out]; simp)
                  go_wp2_with fail
                  go_quiet ((go_at_call 112; exact Calls.quiet_of_same (HCj.out _ _ _ _ (by first | exact HD1.out | exact HA1.out | exact HD2.out | rfl))))
                  go_wp2
                  exact HE.out _
                | true =>
                  have HD2 : Hid (isB F xd 2 = true) := hd2
                  clear hd2
                  have HE : Hid (∀ n, G (.returned (.bool (isB F xa 2))) (W4.drewN n)) := fun n => HFin.out n _ (by rw [HSd.out, HBs.out, HD1.out, HA1.out, HD2.out]; simp)
                  go_wp2_with fail
                  go_quiet ((go_at_call 112; exact Calls.quiet_of_same (HCj.out _ _ _ _ (by first | exact HD1.out | exact HA1.out | exact HD2.out | rfl))))
                  go_wp2
                  exact HE.out _
              | true =>
                have HA1 : Hid (isB F xa 1 = true) := ha1
                clear ha1
                have HE : Hid (∀ n, G (.returned (.bool (true))) (W4.drewN n)) := fun n => HFin.out n _ (by rw [HSd.out, HBs.out, HD1.out, HA1.out]; simp)
                go_wp2_with fail
                go_quiet ((go_at_call 112; exact Calls.quiet_of_same (HCj.out _ _ _ _ (by first | exact HD1.out | exact HA1.out | rfl))))
                go_wp2
                exact HE.out _
          by_cases q3 : cd = 3
          · subst q3
            have HBs : Hid (besB fs F s = markB s.op) := by
              show _ = _
              unfold besB
              rw [HCC.out]
              rfl
            have HE : Hid (∀ n, G (.returned (.bool (markB y6.data.toList))) (W4.drewN n)) := fun n => HFin.out n _ (by rw [HSd.out, HBs.out, HY.out.1])
            have HCm : Hid (∀ n, Calls Tryz.prog 114 #[.string y6] (W4.drewN n) (LqP (markB y6.data.toList) (W4.drewN n))) := fun n => mark_any _ y6 (fun j hj => by rw [← HS.out.mks j hj]; exact (HB4n.out n).cell (p := ⟨4, j, none⟩) (zz (HS.out.mks j hj)))
            go_wp2_with (go_at_call 114; refine (HCm.out 0).mono ?_; rintro e w' ⟨rfl, rfl⟩)
            exact HE.out 0
          by_cases q7 : cd = 7
          · subst q7
            have HBs : Hid (besB fs F s = fitsB F (fs s.name) s.args) := by
              show _ = _
              unfold besB
              rw [HCC.out]
              rfl
            obtain ⟨f9, n9, hm9, hf9⟩ := HS.out.by'
            rcases hf9 with ⟨a1, a2⟩ | ⟨gb', go', GG, a1, a2, a3, a4⟩
            · skip
              have lk8 : ∀ n, (Instr.lookup 107 (.map (some nb)) (.string y8) false).run Tryz.prog (W4.drewN n) = .ok (.pointer none) (W4.drewN n) := fun n => by
                have := (hm9.kept ((HB4n.out n).block _ hm9.lt)).look kdS und62 (zero64 _) (key_s y8 (by rw [HY8.out]; have := HS.out.st.i2.2; simpa [ByteArray.size] using this))
                rw [HY.out.2, a1] at this
                exact this
              have HE : Hid (∀ n, G (.returned (.bool false)) (W4.drewN n)) := fun n => HFin.out n _ (by rw [HSd.out, HBs.out, a2]; rfl)
              have HCf : Hid (∀ n, Calls Tryz.prog 115 #[.pointer (some ⟨sb, so, none⟩), .pointer none, isV w.heap.size] (W4.drewN n) (fun e w' => e = .returned (.bool false) ∧ ∃ m, w' = (W4.drewN n).drewN m)) := fun n => (fits_none _ sb so w.heap.size s F).mono (fun e w' h => ⟨h.1, 1, h.2⟩)
              clear a1 a2 hm9
              go_wp2_with fail
              go_quiet ((go_at_call 115; exact Calls.quiet_of (HCf.out _)))
              go_wp2
              exact HE.out _
            · have lk8 : ∀ n, (Instr.lookup 107 (.map (some nb)) (.string y8) false).run Tryz.prog (W4.drewN n) = .ok (.pointer (some ⟨gb', go', none⟩)) (W4.drewN n) := fun n => by
                have := (hm9.kept ((HB4n.out n).block _ hm9.lt)).look kdS und62 (zero64 _) (key_s y8 (by rw [HY8.out]; have := HS.out.st.i2.2; simpa [ByteArray.size] using this))
                rw [HY.out.2, a1] at this
                exact this
              have HE : Hid (∀ n, G (.returned (.bool (fitsB F (some GG) s.args))) (W4.drewN n)) := fun n => HFin.out n _ (by rw [HSd.out, HBs.out, a2])
              have HCf : Hid (∀ n, Calls Tryz.prog 115 #[.pointer (some ⟨sb, so, none⟩), .pointer (some ⟨gb', go', none⟩), isV w.heap.size] (W4.drewN n) (fun e w' => e = .returned (.bool (fitsB F (some GG) s.args)) ∧ ∃ m, w' = (W4.drewN n).drewN m)) := fun n => (fits_any _ sb so w.heap.size gb' go' s F GG (HS.out.st.below (HB4n.out n)) (HBy.out n) (a3.below (HB4n.out n)) a4).mono (fun e w' h => ⟨h.1, 1, h.2⟩)
              clear a1 a2 a3 a4 hm9
              go_wp2_with fail
              go_quiet ((go_at_call 115; exact Calls.quiet_of (HCf.out _)))
              go_wp2
              exact HE.out _
          have u2 : ((cd : Int) == 2) = false := by simpa using (by omega : ¬ (cd : Int) = 2)
          have u3 : ((cd : Int) == 3) = false := by simpa using (by omega : ¬ (cd : Int) = 3)
          have u7 : ((cd : Int) == 7) = false := by simpa using (by omega : ¬ (cd : Int) = 7)
          have HBs : Hid (besB fs F s = true) := by
            show _ = _
            unfold besB
            rw [HCC.out, if_neg (by omega), if_neg (by omega), if_neg (by omega)]
          have HE : Hid (∀ n, G (.returned (.bool true)) (W4.drewN n)) := fun n => HFin.out n true (by rw [HSd.out, HBs.out])
          clear q2 q3 q7
          go_wp2
          exact HE.out 0
  · have HE : Hid (G (.returned (.bool false)) W2) := by show G _ _; rw [← HG.out, sb_no (by rw [HCC.out]; exact hr)]; exact ⟨rfl, HB2.out⟩
    rw [hW2] at HE
    clear hW2 HB2 e1
    by_cases h1 : cc < 1
    · have t1 : decide (cc < 1) = true := decide_eq_true h1
      go_enter Tryz.func77, Tryz.ntmps77
      go_wp2
      exact HE.out
    · have t1 : decide (cc < 1) = false := decide_eq_false h1
      have t2 : decide (15 ≤ cc) = true := decide_eq_true (by omega)
      go_enter Tryz.func77, Tryz.ntmps77
      go_wp2
      exact HE.out
def labsB (l : List Ms) : Bool := decide (((l.filter (fun s => s.code == 6)).map (·.label)).Nodup)
theorem labs_yes {l : List Ms} (h : qA l) : labsB l = true := decide_eq_true h
theorem labs_no {l : List Ms} (h : ¬ qA l) : labsB l = false := decide_eq_false h
def lastB (F : Mf) : Bool := match F.steps[F.steps.length - 1]? with
  | some s => s.code == 8 || s.code == 4
  | none => false
def zV (fs : By → Option Mf) (F : Mf) : Bool := decide (1 ≤ F.steps.length ∧ F.steps.length ≤ 6000) && (lastB F && (labsB F.steps && F.steps.all (qN fs F)))
theorem rb_1 {fs : By → Option Mf} {F : Mf} (h : ¬ (1 ≤ F.steps.length ∧ F.steps.length ≤ 6000)) : zV fs F = false := by unfold zV; rw [decide_eq_false h]; rfl
theorem rb_2 {fs : By → Option Mf} {F : Mf} (h : lastB F = false) : zV fs F = false := by unfold zV; rw [h]; simp
theorem rb_3 {fs : By → Option Mf} {F : Mf} (h : ¬ qA F.steps) : zV fs F = false := by unfold zV; rw [labs_no h]; simp
theorem rb_4 {fs : By → Option Mf} {F : Mf} (h1 : 1 ≤ F.steps.length ∧ F.steps.length ≤ 6000) (h2 : lastB F = true) (h3 : qA F.steps) : zV fs F = F.steps.all (qN fs F) := by unfold zV; rw [decide_eq_true h1, h2, labs_yes h3]; simp
def FnsE (w : World) (fs : By → Option Mf) (nb : Nat) : Prop := ∃ f n, Mp 9 w nb f n ∧ ∀ nm, (f (.string nm) = none ∧ fs nm = none) ∨ ∃ gb go G, f (.string nm) = some (.pointer (some ⟨gb, go, none⟩)) ∧ fs nm = some G ∧ FnAt w gb go G ∧ zy G = true
theorem FnsE.below {w w' : World} {fs : By → Option Mf} {nb : Nat} (h : FnsE w fs nb) (hb : Below w.heap.size w w') : FnsE w' fs nb := by
  obtain ⟨f, n, h1, h2⟩ := h
  refine ⟨f, n, h1.kept (hb.block _ h1.lt), fun nm => ?_⟩
  rcases h2 nm with h | ⟨gb, go, G, a1, a2, a3, a4⟩
  · exact .inl h
  · exact .inr ⟨gb, go, G, a1, a2, a3.below hb, a4⟩
theorem FmE.below {w w' : World} (h : FmE w) (hb : Below w.heap.size w w') : FmE w' := fun j hj => by
  obtain ⟨a, b, c, d, e⟩ := h j hj
  have kp : ∀ (o : Nat) (v : Value), w.cell? ⟨3, o, none⟩ = some v → w'.cell? ⟨3, o, none⟩ = some v := fun o v hv => by rw [hb.cell (p := ⟨3, o, none⟩) (zz hv)]; exact hv
  exact ⟨kp _ _ a, kp _ _ b, kp _ _ c, kp _ _ d, kp _ _ e⟩
theorem MkE.below {w w' : World} (h : MkE w) (hb : Below w.heap.size w w') : MkE w' := fun j hj => by
  rw [← h j hj]; exact hb.cell (p := ⟨4, j, none⟩) (zz (h j hj))
structure RtE (w : World) (fs : By → Option Mf) (nb : Nat) : Prop where
  fm : FmE w
  mks : MkE w
  fns : FnsE w fs nb
theorem RtE.below {w w' : World} {fs : By → Option Mf} {nb : Nat} (h : RtE w fs nb) (hb : Below w.heap.size w w') : RtE w' fs nb := ⟨h.fm.below hb, h.mks.below hb, h.fns.below hb⟩
theorem RtE.st {w : World} {fs : By → Option Mf} {fb fo sb so mb nb : Nat} {F : Mf} {s : Ms} (h : RtE w fs nb) (hf : FnAt w fb fo F) (hs : StepAt w sb so s) (hm : ∃ n, Mp 3 w mb (labF F.steps) n) : StE w fs fb fo sb so mb nb F s := by
  obtain ⟨f, n, h1, h2⟩ := h.fns
  exact ⟨hf, hs, h.fm, h.mks, hm, f, n, h1, h2 s.name⟩
theorem right_any (w : World) (fs : By → Option Mf) (fb fo nb : Nat) (F : Mf) (h : FnAt w fb fo F) (hE : RtE w fs nb) : Calls Tryz.prog 47 #[.pointer (some ⟨fb, fo, none⟩), .map (some nb)] w (LkP (zV fs F) w) := by
  obtain ⟨q, c, k3, hc, hst⟩ := h.c3
  have HF : Hid (FnAt w fb fo F) := h
  have HE : Hid (RtE w fs nb) := hE
  have HSt : Hid (F.steps = [] ∨ ∃ g p, q = some ⟨g, p, none⟩ ∧ ∀ j s, F.steps[j]? = some s → StepAt w g (p + j * 10) s) := hst
  obtain ⟨n, hn⟩ : ∃ n, n = F.steps.length := ⟨_, rfl⟩
  have HN : Hid (n = F.steps.length) := hn
  have hn6 : n ≤ 1000000 := by rw [hn]; exact h.i2.2.2
  rw [← hn] at k3 hc
  generalize hG : LkP (zV fs F) w = G
  have HG : Hid (LkP (zV fs F) w = G) := hG
  have HFin : Hid (∀ W b, Below w.heap.size w W → zV fs F = b → G (.returned (.bool b)) W) := fun W b hb hb2 => by rw [← HG.out, hb2]; exact ⟨rfl, hb⟩
  clear hst h hn hE hG
  by_cases h1 : n < 1
  · have HX : Hid (G (.returned (.bool false)) w) := HFin.out w false (Below.refl _ _) (rb_1 (by rw [← HN.out]; omega))
    have t1 : decide ((n : Int) < 1) = true := decide_eq_true (by omega)
    go_enter Tryz.func47, Tryz.ntmps47
    go_wp2
    exact HX.out
  by_cases h2 : 6000 < n
  · have HX : Hid (G (.returned (.bool false)) w) := HFin.out w false (Below.refl _ _) (rb_1 (by rw [← HN.out]; omega))
    have t1 : decide ((n : Int) < 1) = false := decide_eq_false (by omega)
    have t2 : decide ((6000 : Int) < (n : Int)) = true := decide_eq_true (by omega)
    go_enter Tryz.func47, Tryz.ntmps47
    go_wp2
    exact HX.out
  have hnn : 1 ≤ n ∧ n ≤ 6000 := ⟨by omega, by omega⟩
  obtain ⟨n', rfl⟩ : ∃ n', n = n' + 1 := ⟨n - 1, by omega⟩
  obtain ⟨s, hs⟩ : ∃ s, F.steps[n']? = some s := ⟨F.steps[n']'(by rw [← HN.out]; omega), List.getElem?_eq_getElem _⟩
  obtain ⟨gs, ps, rfl, hsts⟩ : ∃ g p, q = some ⟨g, p, none⟩ ∧ ∀ j s, F.steps[j]? = some s → StepAt w g (p + j * 10) s := by
    rcases HSt.out with h | h
    · rw [h] at hs; simp at hs
    · exact h
  have HStp : Hid (∀ j s, F.steps[j]? = some s → StepAt w gs (ps + j * 10) s) := hsts
  have k0 := (hsts n' s hs).c0
  obtain ⟨cd, hcd⟩ : ∃ cd, s.code = cd := ⟨_, rfl⟩
  rw [hcd] at k0
  have HLs : Hid (lastB F = (cd == 8 || cd == 4)) := by
    show _ = _
    unfold lastB
    rw [← HN.out, Nat.add_sub_cancel, hs, ← hcd]
  have t1 : decide ((n' : Int) + 1 < 1) = false := decide_eq_false (by omega)
  have t2 : decide ((6000 : Int) < (n' : Int) + 1) = false := decide_eq_false (by omega)
  have HR6 : Hid (1 ≤ F.steps.length ∧ F.steps.length ≤ 6000) := ⟨by rw [← HN.out]; omega, by rw [← HN.out]; omega⟩
  clear hs hsts h1 h2 hcd
  have HLb : Hid (Calls Tryz.prog 76 #[.pointer (some ⟨fb, fo, none⟩)] w (LbP F.steps w)) := labels_any w fb fo F HF.out
  cases hl : (cd == 8 || cd == 4) with
  | false =>
    have HX : Hid (G (.returned (.bool false)) w) := HFin.out w false (Below.refl _ _) (rb_2 (by rw [HLs.out, hl]))
    have u8 : (cd != 8) = true := by simp at hl; simp [hl]
    have u4 : (cd != 4) = true := by simp at hl; simp [hl]
    clear hl
    go_enter Tryz.func47, Tryz.ntmps47
    go_wp2
    exact HX.out
  | true =>
    have HL2 : Hid (lastB F = true) := by show _ = _; rw [HLs.out, hl]
    have hcd : cd = 8 ∨ cd = 4 := by simpa using hl
    clear hl HLs
    obtain ⟨nz, hnz⟩ : ∃ nz, nz = n' + 1 := ⟨_, rfl⟩
    have HNZ : Hid (nz = n' + 1) := hnz
    clear hnz
    rcases hcd with rfl | rfl
    all_goals
      go_enter Tryz.func47, Tryz.ntmps47
      go_wp2_with (go_at_call 76; fail)
      refine HLb.out.mono ?_
      rintro e w1 ⟨hb1, ⟨hok, rfl, m, hm, hmp⟩ | ⟨hno, rfl⟩⟩
      rotate_left
      · have HX : Hid (G (.returned (.bool false)) w1) := HFin.out w1 false hb1 (rb_3 hno)
        clear hb1 hno
        go_wp2
        exact HX.out
      · have HRb : Hid (zV fs F = F.steps.all (qN fs F)) := rb_4 HR6.out HL2.out hok
        have HB1 : Hid (Below w.heap.size w w1) := hb1
        have HMp : Hid (Mp 3 w1 w.heap.size (labF F.steps) m) := hmp
        have j3 : w1.cell? ⟨fb, fo + 3, none⟩ = some (.slice (some ⟨gs, ps, none⟩) (n' + 1) c) := by rw [hb1.cell (p := ⟨fb, fo + 3, none⟩) (zz k3)]; exact k3
        rw [← HNZ.out] at j3
        have HZ : Hid (nz ≤ c ∧ nz ≤ 1000000) := by have := HNZ.out; exact ⟨by omega, by omega⟩
        have hn7 : nz ≤ 1000000 := HZ.out.2
        clear hb1 hmp hok hm k3 k0
        go_wp2_with fail
        go_loopw [56] (fun v wr => ∃ i : Nat, i ≤ nz ∧ v = .int .i64 i ∧ Hid (Below w1.heap.size w1 wr) ∧ Hid ((F.steps.take i).all (qN fs F) = true)) (fun v _ => nz - (intOf v).toNat)
        case atStart => exact ⟨0, Nat.zero_le _, rfl, Below.refl _ _, (by show _ = _; simp)⟩
        case round =>
          obtain ⟨i, hin, rfl, HBr, HA⟩ := hrel
          have HNz : Hid (nz = F.steps.length) := by show _ = _; rw [HNZ.out]; exact HN.out
          have HBw : Hid (Below w.heap.size w wr) := HB1.out.trans (HBr.out.mono HB1.out.size)
          by_cases hlt2 : i < nz
          · obtain ⟨s2, hs2⟩ : ∃ s, F.steps[i]? = some s := ⟨F.steps[i]'(by rw [← HNz.out]; exact hlt2), List.getElem?_eq_getElem _⟩
            have jr : wr.cell? ⟨fb, fo + 3, none⟩ = some (.slice (some ⟨gs, ps, none⟩) nz c) := by rw [HBr.out.cell (p := ⟨fb, fo + 3, none⟩) (zz j3)]; exact j3
            have hl9 : (i : Int) < (nz : Int) := by omega
            have HC : Hid (Calls Tryz.prog 77 #[.pointer (some ⟨fb, fo, none⟩), .pointer (some ⟨gs, ps + i * 10, none⟩), .map (some w.heap.size), .map (some nb)] wr (LkP (qN fs F s2) wr)) := step_any wr fs fb fo gs (ps + i * 10) w.heap.size nb F s2 ((HE.out.below HBw.out).st (HF.out.below HBw.out) ((HStp.out i s2 hs2).below HBw.out) ⟨m, HMp.out.kept (HBr.out.block _ HMp.out.lt)⟩)
            have HS2 : Hid (F.steps[i]? = some s2) := hs2
            have hnc : nz ≤ c := HZ.out.1
            clear hs2 j3
            go_wp2_with (go_at_call 77; fail)
            refine HC.out.mono ?_
            rintro e w2 ⟨rfl, hb2⟩
            have HB2 : Hid (Below wr.heap.size wr w2) := hb2
            clear hb2
            cases hst : qN fs F s2 with
            | true =>
              have HA2 : Hid ((F.steps.take (i + 1)).all (qN fs F) = true) := by show _ = _; rw [zY HS2.out, List.all_append, HA.out]; simp [hst]
              have HB3 : Hid (Below w1.heap.size w1 w2) := HBr.out.trans (HB2.out.mono HBr.out.size)
              clear hst
              go_wp2
              exact ⟨⟨i + 1, by omega, by go_num, HB3, HA2⟩, by simp [intOf]; omega⟩
            | false =>
              have HX : Hid (G (.returned (.bool false)) w2) := HFin.out w2 false (HBw.out.trans (HB2.out.mono HBw.out.size)) (by rw [HRb.out, all_bad2 HS2.out hst])
              clear hst
              go_wp2
              exact HX.out
          · have hin2 : i = nz := by omega
            have HX : Hid (G (.returned (.bool true)) wr) := HFin.out wr true HBw.out (by
              have := HA.out
              rw [hin2, List.take_of_length_le (by rw [HNz.out]; exact Nat.le_refl _)] at this
              rw [HRb.out, this])
            subst hin2
            go_wp2
            exact HX.out
end Go.Proofs.YtnfhpdbbfejioaaGreatDoor.Mid
