/- Package mid, walked: right. -/
import Derived.Test.YtjmbjpimabnohaaDoorQG
namespace Go.Proofs.YtjmbjpimabnohaaDoor.Mid
set_option linter.unusedVariables false
set_option linter.unusedSimpArgs false
open Go Go.RowKit

def labsB (l : List Ms) : Bool := decide (((l.filter (fun s => s.code == 6)).map (·.label)).Nodup)
theorem labs_yes {l : List Ms} (h : labsOk l) : labsB l = true := decide_eq_true h
theorem labs_no {l : List Ms} (h : ¬ labsOk l) : labsB l = false := decide_eq_false h
def lastB (F : Mf) : Bool := match F.steps[F.steps.length - 1]? with
  | some s => s.code == 8 || s.code == 4
  | none => false
/-- May a function have the steps that it has, among all functions? -/
def rightB (fs : By → Option Mf) (F : Mf) : Bool := decide (1 ≤ F.steps.length ∧ F.steps.length ≤ 6000) && (lastB F && (labsB F.steps && F.steps.all (stepB fs F)))
theorem rb_1 {fs : By → Option Mf} {F : Mf} (h : ¬ (1 ≤ F.steps.length ∧ F.steps.length ≤ 6000)) : rightB fs F = false := by unfold rightB; rw [decide_eq_false h]; rfl
theorem rb_2 {fs : By → Option Mf} {F : Mf} (h : lastB F = false) : rightB fs F = false := by unfold rightB; rw [h]; simp
theorem rb_3 {fs : By → Option Mf} {F : Mf} (h : ¬ labsOk F.steps) : rightB fs F = false := by unfold rightB; rw [labs_no h]; simp
theorem rb_4 {fs : By → Option Mf} {F : Mf} (h1 : 1 ≤ F.steps.length ∧ F.steps.length ≤ 6000) (h2 : lastB F = true) (h3 : labsOk F.steps) : rightB fs F = F.steps.all (stepB fs F) := by unfold rightB; rw [decide_eq_true h1, h2, labs_yes h3]; simp
/-- Functions by their names, in memory. -/
def FnsE (w : World) (fs : By → Option Mf) (nb : Nat) : Prop := ∃ f n, Mp 9 w nb f n ∧ ∀ nm, (f (.string nm) = none ∧ fs nm = none) ∨ ∃ gb go G, f (.string nm) = some (.pointer (some ⟨gb, go, none⟩)) ∧ fs nm = some G ∧ FnAt w gb go G ∧ placesB G = true
theorem FnsE.below {w w' : World} {fs : By → Option Mf} {nb : Nat} (h : FnsE w fs nb) (hb : Below w.heap.size w w') : FnsE w' fs nb := by
  obtain ⟨f, n, h1, h2⟩ := h
  refine ⟨f, n, h1.kept (hb.block _ h1.lt), fun nm => ?_⟩
  rcases h2 nm with h | ⟨gb, go, G, a1, a2, a3, a4⟩
  · exact .inl h
  · exact .inr ⟨gb, go, G, a1, a2, a3.below hb, a4⟩
theorem FmE.below {w w' : World} (h : FmE w) (hb : Below w.heap.size w w') : FmE w' := fun j hj => by
  obtain ⟨a, b, c, d, e⟩ := h j hj
  have kp : ∀ (o : Nat) (v : Value), w.cell? ⟨0, o, none⟩ = some v → w'.cell? ⟨0, o, none⟩ = some v := fun o v hv => by rw [hb.cell (p := ⟨0, o, none⟩) (cell_lt hv)]; exact hv
  exact ⟨kp _ _ a, kp _ _ b, kp _ _ c, kp _ _ d, kp _ _ e⟩
theorem MkE.below {w w' : World} (h : MkE w) (hb : Below w.heap.size w w') : MkE w' := fun j hj => by
  rw [← h j hj]; exact hb.cell (p := ⟨1, j, none⟩) (cell_lt (h j hj))
/-- What right looks at. -/
structure RtE (w : World) (fs : By → Option Mf) (nb : Nat) : Prop where
  fm : FmE w
  mks : MkE w
  fns : FnsE w fs nb
theorem RtE.below {w w' : World} {fs : By → Option Mf} {nb : Nat} (h : RtE w fs nb) (hb : Below w.heap.size w w') : RtE w' fs nb := ⟨h.fm.below hb, h.mks.below hb, h.fns.below hb⟩
theorem RtE.st {w : World} {fs : By → Option Mf} {fb fo sb so mb nb : Nat} {F : Mf} {s : Ms} (h : RtE w fs nb) (hf : FnAt w fb fo F) (hs : StepAt w sb so s) (hm : ∃ n, Mp 3 w mb (labF F.steps) n) : StE w fs fb fo sb so mb nb F s := by
  obtain ⟨f, n, h1, h2⟩ := h.fns
  exact ⟨hf, hs, h.fm, h.mks, hm, f, n, h1, h2 s.name⟩
set_option maxRecDepth 100000 in
set_option maxHeartbeats 4000000 in
theorem right_any (w : World) (fs : By → Option Mf) (fb fo nb : Nat) (F : Mf) (h : FnAt w fb fo F) (hE : RtE w fs nb) : Calls Tryd.prog 24 #[.pointer (some ⟨fb, fo, none⟩), .map (some nb)] w (LkP (rightB fs F) w) := by
  obtain ⟨q, c, k3, hc, hst⟩ := h.c3
  have HF : Hid (FnAt w fb fo F) := h
  have HE : Hid (RtE w fs nb) := hE
  have HSt : Hid (F.steps = [] ∨ ∃ g p, q = some ⟨g, p, none⟩ ∧ ∀ j s, F.steps[j]? = some s → StepAt w g (p + j * 10) s) := hst
  obtain ⟨n, hn⟩ : ∃ n, n = F.steps.length := ⟨_, rfl⟩
  have HN : Hid (n = F.steps.length) := hn
  have hn6 : n ≤ 1000000 := by rw [hn]; exact h.i2.2.2
  rw [← hn] at k3 hc
  generalize hG : LkP (rightB fs F) w = G
  have HG : Hid (LkP (rightB fs F) w = G) := hG
  have HFin : Hid (∀ W b, Below w.heap.size w W → rightB fs F = b → G (.returned (.bool b)) W) := fun W b hb hb2 => by rw [← HG.out, hb2]; exact ⟨rfl, hb⟩
  clear hst h hn hE hG
  by_cases h1 : n < 1
  · have HX : Hid (G (.returned (.bool false)) w) := HFin.out w false (Below.refl _ _) (rb_1 (by rw [← HN.out]; omega))
    have t1 : decide ((n : Int) < 1) = true := decide_eq_true (by omega)
    go_enter Tryd.func24, Tryd.ntmps24
    go_wp2
    exact HX.out
  by_cases h2 : 6000 < n
  · have HX : Hid (G (.returned (.bool false)) w) := HFin.out w false (Below.refl _ _) (rb_1 (by rw [← HN.out]; omega))
    have t1 : decide ((n : Int) < 1) = false := decide_eq_false (by omega)
    have t2 : decide ((6000 : Int) < (n : Int)) = true := decide_eq_true (by omega)
    go_enter Tryd.func24, Tryd.ntmps24
    go_wp2
    exact HX.out
  have hnn : 1 ≤ n ∧ n ≤ 6000 := ⟨by omega, by omega⟩
  obtain ⟨n', rfl⟩ : ∃ n', n = n' + 1 := ⟨n - 1, by omega⟩
  obtain ⟨s, hs⟩ : ∃ s, F.steps[n']? = some s := ⟨F.steps[n']'(by rw [← HN.out]; omega), List.getElem?_eq_getElem _⟩
  obtain ⟨gs, ps, rfl, hsts⟩ : ∃ g p, q = some ⟨g, p, none⟩ ∧ ∀ j s, F.steps[j]? = some s → StepAt w g (p + j * 10) s := by
    rcases HSt.out with h | h
    · rw [h] at hs; simp at hs
    · exact h
  have HStp : Hid (∀ j s, F.steps[j]? = some s → StepAt w gs (ps + j * 10) s) := hsts
  have k0 := (hsts n' s hs).c0
  obtain ⟨cd, hcd⟩ : ∃ cd, s.code = cd := ⟨_, rfl⟩
  rw [hcd] at k0
  have HLs : Hid (lastB F = (cd == 8 || cd == 4)) := by
    show _ = _
    unfold lastB
    rw [← HN.out, Nat.add_sub_cancel, hs, ← hcd]
  have t1 : decide ((n' : Int) + 1 < 1) = false := decide_eq_false (by omega)
  have t2 : decide ((6000 : Int) < (n' : Int) + 1) = false := decide_eq_false (by omega)
  have HR6 : Hid (1 ≤ F.steps.length ∧ F.steps.length ≤ 6000) := ⟨by rw [← HN.out]; omega, by rw [← HN.out]; omega⟩
  clear hs hsts h1 h2 hcd
  have HLb : Hid (Calls Tryd.prog 36 #[.pointer (some ⟨fb, fo, none⟩)] w (LbP F.steps w)) := labels_any w fb fo F HF.out
  cases hl : (cd == 8 || cd == 4) with
  | false =>
    have HX : Hid (G (.returned (.bool false)) w) := HFin.out w false (Below.refl _ _) (rb_2 (by rw [HLs.out, hl]))
    have u8 : (cd != 8) = true := by simp at hl; simp [hl]
    have u4 : (cd != 4) = true := by simp at hl; simp [hl]
    clear hl
    go_enter Tryd.func24, Tryd.ntmps24
    go_wp2
    exact HX.out
  | true =>
    have HL2 : Hid (lastB F = true) := by show _ = _; rw [HLs.out, hl]
    have hcd : cd = 8 ∨ cd = 4 := by simpa using hl
    clear hl HLs
    obtain ⟨nz, hnz⟩ : ∃ nz, nz = n' + 1 := ⟨_, rfl⟩
    have HNZ : Hid (nz = n' + 1) := hnz
    clear hnz
    rcases hcd with rfl | rfl
    all_goals
      go_enter Tryd.func24, Tryd.ntmps24
      go_wp2_with (go_at_call 36; fail)
      refine HLb.out.mono ?_
      rintro e w1 ⟨hb1, ⟨hok, rfl, m, hm, hmp⟩ | ⟨hno, rfl⟩⟩
      rotate_left
      · have HX : Hid (G (.returned (.bool false)) w1) := HFin.out w1 false hb1 (rb_3 hno)
        clear hb1 hno
        go_wp2
        exact HX.out
      · have HRb : Hid (rightB fs F = F.steps.all (stepB fs F)) := rb_4 HR6.out HL2.out hok
        have HB1 : Hid (Below w.heap.size w w1) := hb1
        have HMp : Hid (Mp 3 w1 w.heap.size (labF F.steps) m) := hmp
        have j3 : w1.cell? ⟨fb, fo + 3, none⟩ = some (.slice (some ⟨gs, ps, none⟩) (n' + 1) c) := by rw [hb1.cell (p := ⟨fb, fo + 3, none⟩) (cell_lt k3)]; exact k3
        rw [← HNZ.out] at j3
        have HZ : Hid (nz ≤ c ∧ nz ≤ 1000000) := by have := HNZ.out; exact ⟨by omega, by omega⟩
        have hn7 : nz ≤ 1000000 := HZ.out.2
        clear hb1 hmp hok hm k3 k0
        go_wp2_with fail
        go_loopw [56] (fun v wr => ∃ i : Nat, i ≤ nz ∧ v = .int .i64 i ∧ Hid (Below w1.heap.size w1 wr) ∧ Hid ((F.steps.take i).all (stepB fs F) = true)) (fun v _ => nz - (intOf v).toNat)
        case atStart => exact ⟨0, Nat.zero_le _, rfl, Below.refl _ _, (by show _ = _; simp)⟩
        case round =>
          obtain ⟨i, hin, rfl, HBr, HA⟩ := hrel
          have HNz : Hid (nz = F.steps.length) := by show _ = _; rw [HNZ.out]; exact HN.out
          have HBw : Hid (Below w.heap.size w wr) := HB1.out.trans (HBr.out.mono HB1.out.size)
          by_cases hlt2 : i < nz
          · obtain ⟨s2, hs2⟩ : ∃ s, F.steps[i]? = some s := ⟨F.steps[i]'(by rw [← HNz.out]; exact hlt2), List.getElem?_eq_getElem _⟩
            have jr : wr.cell? ⟨fb, fo + 3, none⟩ = some (.slice (some ⟨gs, ps, none⟩) nz c) := by rw [HBr.out.cell (p := ⟨fb, fo + 3, none⟩) (cell_lt j3)]; exact j3
            have hl9 : (i : Int) < (nz : Int) := by omega
            have HC : Hid (Calls Tryd.prog 37 #[.pointer (some ⟨fb, fo, none⟩), .pointer (some ⟨gs, ps + i * 10, none⟩), .map (some w.heap.size), .map (some nb)] wr (LkP (stepB fs F s2) wr)) := step_any wr fs fb fo gs (ps + i * 10) w.heap.size nb F s2 ((HE.out.below HBw.out).st (HF.out.below HBw.out) ((HStp.out i s2 hs2).below HBw.out) ⟨m, HMp.out.kept (HBr.out.block _ HMp.out.lt)⟩)
            have HS2 : Hid (F.steps[i]? = some s2) := hs2
            have hnc : nz ≤ c := HZ.out.1
            clear hs2 j3
            go_wp2_with (go_at_call 37; fail)
            refine HC.out.mono ?_
            rintro e w2 ⟨rfl, hb2⟩
            have HB2 : Hid (Below wr.heap.size wr w2) := hb2
            clear hb2
            cases hst : stepB fs F s2 with
            | true =>
              have HA2 : Hid ((F.steps.take (i + 1)).all (stepB fs F) = true) := by show _ = _; rw [take_snoc HS2.out, List.all_append, HA.out]; simp [hst]
              have HB3 : Hid (Below w1.heap.size w1 w2) := HBr.out.trans (HB2.out.mono HBr.out.size)
              clear hst
              go_wp2
              exact ⟨⟨i + 1, by omega, by go_num, HB3, HA2⟩, by simp [intOf]; omega⟩
            | false =>
              have HX : Hid (G (.returned (.bool false)) w2) := HFin.out w2 false (HBw.out.trans (HB2.out.mono HBw.out.size)) (by rw [HRb.out, all_bad2 HS2.out hst])
              clear hst
              go_wp2
              exact HX.out
          · have hin2 : i = nz := by omega
            have HX : Hid (G (.returned (.bool true)) wr) := HFin.out wr true HBw.out (by
              have := HA.out
              rw [hin2, List.take_of_length_le (by rw [HNz.out]; exact Nat.le_refl _)] at this
              rw [HRb.out, this])
            subst hin2
            go_wp2
            exact HX.out
end Go.Proofs.YtjmbjpimabnohaaDoor.Mid
