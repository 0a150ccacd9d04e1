/- QH QI -/
import Derived.Test.YtjmbjpimabnohaaDoorK06
namespace Go.Proofs.YtjmbjpimabnohaaDoor.Mid
set_option linter.unusedVariables false
set_option linter.unusedSimpArgs false
open Go Go.RowKit
def labsB (l : List Ms) : Bool := decide (((l.filter (fun s => s.code == 6)).map (·.label)).Nodup)
theorem labs_yes {l : List Ms} (h : labsOk l) : labsB l = true := decide_eq_true h
theorem labs_no {l : List Ms} (h : ¬ labsOk l) : labsB l = false := decide_eq_false h
def lastB (F : Mf) : Bool := match F.steps[F.steps.length - 1]? with
  | some s => s.code == 8 || s.code == 4
  | none => false
def rightB (fs : By → Option Mf) (F : Mf) : Bool := decide (1 ≤ F.steps.length ∧ F.steps.length ≤ 6000) && (lastB F && (labsB F.steps && F.steps.all (stepB fs F)))
theorem rb_1 {fs : By → Option Mf} {F : Mf} (h : ¬ (1 ≤ F.steps.length ∧ F.steps.length ≤ 6000)) : rightB fs F = false := by unfold rightB; rw [decide_eq_false h]; rfl
theorem rb_2 {fs : By → Option Mf} {F : Mf} (h : lastB F = false) : rightB fs F = false := by unfold rightB; rw [h]; simp
theorem rb_3 {fs : By → Option Mf} {F : Mf} (h : ¬ labsOk F.steps) : rightB fs F = false := by unfold rightB; rw [labs_no h]; simp
theorem rb_4 {fs : By → Option Mf} {F : Mf} (h1 : 1 ≤ F.steps.length ∧ F.steps.length ≤ 6000) (h2 : lastB F = true) (h3 : labsOk F.steps) : rightB fs F = F.steps.all (stepB fs F) := by unfold rightB; rw [decide_eq_true h1, h2, labs_yes h3]; simp
def FnsE (w : World) (fs : By → Option Mf) (nb : Nat) : Prop := ∃ f n, Mp 9 w nb f n ∧ ∀ nm, (f (.string nm) = none ∧ fs nm = none) ∨ ∃ gb go G, f (.string nm) = some (.pointer (some ⟨gb, go, none⟩)) ∧ fs nm = some G ∧ FnAt w gb go G ∧ placesB G = true
theorem FnsE.below {w w' : World} {fs : By → Option Mf} {nb : Nat} (h : FnsE w fs nb) (hb : Below w.heap.size w w') : FnsE w' fs nb := by
  obtain ⟨f, n, h1, h2⟩ := h
  refine ⟨f, n, h1.kept (hb.block _ h1.lt), fun nm => ?_⟩
  rcases h2 nm with h | ⟨gb, go, G, a1, a2, a3, a4⟩
  · exact .inl h
  · exact .inr ⟨gb, go, G, a1, a2, a3.below hb, a4⟩
theorem FmE.below {w w' : World} (h : FmE w) (hb : Below w.heap.size w w') : FmE w' := fun j hj => by
  obtain ⟨a, b, c, d, e⟩ := h j hj
  have kp : ∀ (o : Nat) (v : Value), w.cell? ⟨0, o, none⟩ = some v → w'.cell? ⟨0, o, none⟩ = some v := fun o v hv => by rw [hb.cell (p := ⟨0, o, none⟩) (cell_lt hv)]; exact hv
  exact ⟨kp _ _ a, kp _ _ b, kp _ _ c, kp _ _ d, kp _ _ e⟩
theorem MkE.below {w w' : World} (h : MkE w) (hb : Below w.heap.size w w') : MkE w' := fun j hj => by
  rw [← h j hj]; exact hb.cell (p := ⟨1, j, none⟩) (cell_lt (h j hj))
structure RtE (w : World) (fs : By → Option Mf) (nb : Nat) : Prop where
  fm : FmE w
  mks : MkE w
  fns : FnsE w fs nb
theorem RtE.below {w w' : World} {fs : By → Option Mf} {nb : Nat} (h : RtE w fs nb) (hb : Below w.heap.size w w') : RtE w' fs nb := ⟨h.fm.below hb, h.mks.below hb, h.fns.below hb⟩
theorem RtE.st {w : World} {fs : By → Option Mf} {fb fo sb so mb nb : Nat} {F : Mf} {s : Ms} (h : RtE w fs nb) (hf : FnAt w fb fo F) (hs : StepAt w sb so s) (hm : ∃ n, Mp 3 w mb (labF F.steps) n) : StE w fs fb fo sb so mb nb F s := by
  obtain ⟨f, n, h1, h2⟩ := h.fns
  exact ⟨hf, hs, h.fm, h.mks, hm, f, n, h1, h2 s.name⟩
set_option maxRecDepth 100000 in
set_option maxHeartbeats 4000000 in
theorem right_any (w : World) (fs : By → Option Mf) (fb fo nb : Nat) (F : Mf) (h : FnAt w fb fo F) (hE : RtE w fs nb) : Calls Tryd.prog 24 #[.pointer (some ⟨fb, fo, none⟩), .map (some nb)] w (LkP (rightB fs F) w) := by
  obtain ⟨q, c, k3, hc, hst⟩ := h.c3
  have HF : Hid (FnAt w fb fo F) := h
  have HE : Hid (RtE w fs nb) := hE
  have HSt : Hid (F.steps = [] ∨ ∃ g p, q = some ⟨g, p, none⟩ ∧ ∀ j s, F.steps[j]? = some s → StepAt w g (p + j * 10) s) := hst
  obtain ⟨n, hn⟩ : ∃ n, n = F.steps.length := ⟨_, rfl⟩
  have HN : Hid (n = F.steps.length) := hn
  have hn6 : n ≤ 1000000 := by rw [hn]; exact h.i2.2.2
  rw [← hn] at k3 hc
  generalize hG : LkP (rightB fs F) w = G
  have HG : Hid (LkP (rightB fs F) w = G) := hG
  have HFin : Hid (∀ W b, Below w.heap.size w W → rightB fs F = b → G (.returned (.bool b)) W) := fun W b hb hb2 => by rw [← HG.out, hb2]; exact ⟨rfl, hb⟩
  clear hst h hn hE hG
  by_cases h1 : n < 1
  · have HX : Hid (G (.returned (.bool false)) w) := HFin.out w false (Below.refl _ _) (rb_1 (by rw [← HN.out]; omega))
    have t1 : decide ((n : Int) < 1) = true := decide_eq_true (by omega)
    go_enter Tryd.func24, Tryd.ntmps24
    go_wp2
    exact HX.out
  by_cases h2 : 6000 < n
  · have HX : Hid (G (.returned (.bool false)) w) := HFin.out w false (Below.refl _ _) (rb_1 (by rw [← HN.out]; omega))
    have t1 : decide ((n : Int) < 1) = false := decide_eq_false (by omega)
    have t2 : decide ((6000 : Int) < (n : Int)) = true := decide_eq_true (by omega)
    go_enter Tryd.func24, Tryd.ntmps24
    go_wp2
    exact HX.out
  have hnn : 1 ≤ n ∧ n ≤ 6000 := ⟨by omega, by omega⟩
  obtain ⟨n', rfl⟩ : ∃ n', n = n' + 1 := ⟨n - 1, by omega⟩
  obtain ⟨s, hs⟩ : ∃ s, F.steps[n']? = some s := ⟨F.steps[n']'(by rw [← HN.out]; omega), List.getElem?_eq_getElem _⟩
  obtain ⟨gs, ps, rfl, hsts⟩ : ∃ g p, q = some ⟨g, p, none⟩ ∧ ∀ j s, F.steps[j]? = some s → StepAt w g (p + j * 10) s := by
    rcases HSt.out with h | h
    · rw [h] at hs; simp at hs
    · exact h
  have HStp : Hid (∀ j s, F.steps[j]? = some s → StepAt w gs (ps + j * 10) s) := hsts
  have k0 := (hsts n' s hs).c0
  obtain ⟨cd, hcd⟩ : ∃ cd, s.code = cd := ⟨_, rfl⟩
  rw [hcd] at k0
  have HLs : Hid (lastB F = (cd == 8 || cd == 4)) := by
    show _ = _
    unfold lastB
    rw [← HN.out, Nat.add_sub_cancel, hs, ← hcd]
  have t1 : decide ((n' : Int) + 1 < 1) = false := decide_eq_false (by omega)
  have t2 : decide ((6000 : Int) < (n' : Int) + 1) = false := decide_eq_false (by omega)
  have HR6 : Hid (1 ≤ F.steps.length ∧ F.steps.length ≤ 6000) := ⟨by rw [← HN.out]; omega, by rw [← HN.out]; omega⟩
  clear hs hsts h1 h2 hcd
  have HLb : Hid (Calls Tryd.prog 36 #[.pointer (some ⟨fb, fo, none⟩)] w (LbP F.steps w)) := labels_any w fb fo F HF.out
  cases hl : (cd == 8 || cd == 4) with
  | false =>
    have HX : Hid (G (.returned (.bool false)) w) := HFin.out w false (Below.refl _ _) (rb_2 (by rw [HLs.out, hl]))
    have u8 : (cd != 8) = true := by simp at hl; simp [hl]
    have u4 : (cd != 4) = true := by simp at hl; simp [hl]
    clear hl
    go_enter Tryd.func24, Tryd.ntmps24
    go_wp2
    exact HX.out
  | true =>
    have HL2 : Hid (lastB F = true) := by show _ = _; rw [HLs.out, hl]
    have hcd : cd = 8 ∨ cd = 4 := by simpa using hl
    clear hl HLs
    obtain ⟨nz, hnz⟩ : ∃ nz, nz = n' + 1 := ⟨_, rfl⟩
    have HNZ : Hid (nz = n' + 1) := hnz
    clear hnz
    rcases hcd with rfl | rfl
    all_goals
      go_enter Tryd.func24, Tryd.ntmps24
      go_wp2_with (go_at_call 36; fail)
      refine HLb.out.mono ?_
      rintro e w1 ⟨hb1, ⟨hok, rfl, m, hm, hmp⟩ | ⟨hno, rfl⟩⟩
      rotate_left
      · have HX : Hid (G (.returned (.bool false)) w1) := HFin.out w1 false hb1 (rb_3 hno)
        clear hb1 hno
        go_wp2
        exact HX.out
      · have HRb : Hid (rightB fs F = F.steps.all (stepB fs F)) := rb_4 HR6.out HL2.out hok
        have HB1 : Hid (Below w.heap.size w w1) := hb1
        have HMp : Hid (Mp 3 w1 w.heap.size (labF F.steps) m) := hmp
        have j3 : w1.cell? ⟨fb, fo + 3, none⟩ = some (.slice (some ⟨gs, ps, none⟩) (n' + 1) c) := by rw [hb1.cell (p := ⟨fb, fo + 3, none⟩) (cell_lt k3)]; exact k3
        rw [← HNZ.out] at j3
        have HZ : Hid (nz ≤ c ∧ nz ≤ 1000000) := by have := HNZ.out; exact ⟨by omega, by omega⟩
        have hn7 : nz ≤ 1000000 := HZ.out.2
        clear hb1 hmp hok hm k3 k0
        go_wp2_with fail
        go_loopw [56] (fun v wr => ∃ i : Nat, i ≤ nz ∧ v = .int .i64 i ∧ Hid (Below w1.heap.size w1 wr) ∧ Hid ((F.steps.take i).all (stepB fs F) = true)) (fun v _ => nz - (intOf v).toNat)
        case atStart => exact ⟨0, Nat.zero_le _, rfl, Below.refl _ _, (by show _ = _; simp)⟩
        case round =>
          obtain ⟨i, hin, rfl, HBr, HA⟩ := hrel
          have HNz : Hid (nz = F.steps.length) := by show _ = _; rw [HNZ.out]; exact HN.out
          have HBw : Hid (Below w.heap.size w wr) := HB1.out.trans (HBr.out.mono HB1.out.size)
          by_cases hlt2 : i < nz
          · obtain ⟨s2, hs2⟩ : ∃ s, F.steps[i]? = some s := ⟨F.steps[i]'(by rw [← HNz.out]; exact hlt2), List.getElem?_eq_getElem _⟩
            have jr : wr.cell? ⟨fb, fo + 3, none⟩ = some (.slice (some ⟨gs, ps, none⟩) nz c) := by rw [HBr.out.cell (p := ⟨fb, fo + 3, none⟩) (cell_lt j3)]; exact j3
            have hl9 : (i : Int) < (nz : Int) := by omega
            have HC : Hid (Calls Tryd.prog 37 #[.pointer (some ⟨fb, fo, none⟩), .pointer (some ⟨gs, ps + i * 10, none⟩), .map (some w.heap.size), .map (some nb)] wr (LkP (stepB fs F s2) wr)) := step_any wr fs fb fo gs (ps + i * 10) w.heap.size nb F s2 ((HE.out.below HBw.out).st (HF.out.below HBw.out) ((HStp.out i s2 hs2).below HBw.out) ⟨m, HMp.out.kept (HBr.out.block _ HMp.out.lt)⟩)
            have HS2 : Hid (F.steps[i]? = some s2) := hs2
            have hnc : nz ≤ c := HZ.out.1
            clear hs2 j3
            go_wp2_with (go_at_call 37; fail)
            refine HC.out.mono ?_
            rintro e w2 ⟨rfl, hb2⟩
            have HB2 : Hid (Below wr.heap.size wr w2) := hb2
            clear hb2
            cases hst : stepB fs F s2 with
            | true =>
              have HA2 : Hid ((F.steps.take (i + 1)).all (stepB fs F) = true) := by show _ = _; rw [take_snoc HS2.out, List.all_append, HA.out]; simp [hst]
              have HB3 : Hid (Below w1.heap.size w1 w2) := HBr.out.trans (HB2.out.mono HBr.out.size)
              clear hst
              go_wp2
              exact ⟨⟨i + 1, by omega, by go_num, HB3, HA2⟩, by simp [intOf]; omega⟩
            | false =>
              have HX : Hid (G (.returned (.bool false)) w2) := HFin.out w2 false (HBw.out.trans (HB2.out.mono HBw.out.size)) (by rw [HRb.out, all_bad2 HS2.out hst])
              clear hst
              go_wp2
              exact HX.out
          · have hin2 : i = nz := by omega
            have HX : Hid (G (.returned (.bool true)) wr) := HFin.out wr true HBw.out (by
              have := HA.out
              rw [hin2, List.take_of_length_le (by rw [HNz.out]; exact Nat.le_refl _)] at this
              rw [HRb.out, this])
            subst hin2
            go_wp2
            exact HX.out
def fsL (L : List Mf) (nm : By) : Option Mf := L.find? (fun F => F.name == nm)
abbrev mainB : By := [109, 97, 105, 110]
def mainOk (L : List Mf) : Bool := match fsL L mainB with
  | some F => F.params == 0
  | none => false
def namesB (L : List Mf) : Bool := decide ((L.map (·.name)).Nodup)
def rightV (L : List Mf) : Bool := decide (L.length ≤ 12) && (namesB L && (mainOk L && (L.all placesB && L.all (rightB (fsL L)))))
theorem fsL_get : ∀ (L : List Mf) (j : Nat) (F : Mf), (L.map (·.name)).Nodup → L[j]? = some F → fsL L F.name = some F
  | [], j, F, _, h => by simp at h
  | G :: L, 0, F, _, h => by
    simp at h
    subst h
    simp [fsL]
  | G :: L, j + 1, F, hn, h => by
    simp only [List.map_cons, List.nodup_cons] at hn
    simp only [List.getElem?_cons_succ] at h
    have hne : (G.name == F.name) = false := by
      rw [Bool.eq_false_iff]
      intro e
      have e : G.name = F.name := by simpa using e
      exact hn.1 (List.mem_map.2 ⟨F, List.mem_of_getElem? h, e.symm⟩)
    unfold fsL
    rw [List.find?_cons, hne]
    exact fsL_get L j F hn.2 h
theorem fsL_none {L : List Mf} {nm : By} (h : ∀ (j : Nat) (F : Mf), L[j]? = some F → F.name ≠ nm) : fsL L nm = none := by
  unfold fsL
  rw [List.find?_eq_none]
  intro F hF e
  obtain ⟨j, hj⟩ := List.getElem?_of_mem hF
  exact h j F hj (by simpa using e)
theorem ByI.nodup {L : List Mf} {q : Option Addr} {f : Lit → Option Value} {n : Nat} (h : ByI L q L.length f n) (hn : n = L.length) : (L.map (·.name)).Nodup := by
  have := h.eq.1 hn
  rwa [List.take_length] at this
theorem ByI.get {L : List Mf} {q : Option Addr} {f : Lit → Option Value} {n : Nat} (h : ByI L q L.length f n) (hn : n = L.length) (nm : By) : (f (.string nm) = none ∧ fsL L nm = none) ∨ ∃ g p j F, q = some ⟨g, p, none⟩ ∧ L[j]? = some F ∧ F.name = nm ∧ f (.string nm) = some (.pointer (some ⟨g, p + j * 4, none⟩)) ∧ fsL L nm = some F := by
  cases hf : f (.string nm) with
  | none => exact .inl ⟨rfl, fsL_none fun j F hF => h.no nm hf j F (List.getElem?_eq_some_iff.1 hF).1 hF⟩
  | some v =>
    obtain ⟨g, p, j, F, a1, a2, a3, a4, a5⟩ := h.yes nm v hf
    refine .inr ⟨g, p, j, F, a1, a3, a4, by rw [a5], ?_⟩
    rw [← a4]
    exact fsL_get L j F (h.nodup hn) a3
theorem fns_of {w : World} {cb : Nat} {q : Option Addr} {c : Nat} {L : List Mf} {nb : Nat} {f : Lit → Option Value} {n : Nat} (h : CodeAt w cb q c L) (hm : Mp 9 w nb f n) (hf : ByI L q L.length f n) (hn : n = L.length) (hp : L.all placesB = true) : FnsE w (fsL L) nb := by
  refine ⟨f, n, hm, fun nm => ?_⟩
  rcases hf.get hn nm with h1 | ⟨g, p, j, F, a1, a2, a3, a4, a5⟩
  · exact .inl h1
  · refine .inr ⟨g, p + j * 4, F, a4, a5, ?_, List.all_eq_true.1 hp F (List.mem_of_getElem? a2)⟩
    rcases h.fn with h2 | ⟨g', p', e, h2⟩
    · rw [h2] at a2; simp at a2
    · rw [a1] at e
      injection e with e
      injection e with e1 e2
      subst e1 e2
      exact h2 j F a2
theorem rv_1 {L : List Mf} (h : ¬ L.length ≤ 12) : rightV L = false := by unfold rightV; rw [decide_eq_false h]; rfl
theorem rv_2 {L : List Mf} (h : ¬ (L.map (·.name)).Nodup) : rightV L = false := by unfold rightV namesB; rw [decide_eq_false h]; simp
theorem rv_3 {L : List Mf} (h : mainOk L = false) : rightV L = false := by unfold rightV; rw [h]; simp
theorem rv_4 {L : List Mf} (h : L.all placesB = false) : rightV L = false := by unfold rightV; rw [h]; simp
theorem rv_5 {L : List Mf} (h1 : L.length ≤ 12) (h2 : (L.map (·.name)).Nodup) (h3 : mainOk L = true) (h4 : L.all placesB = true) : rightV L = L.all (rightB (fsL L)) := by unfold rightV namesB; rw [decide_eq_true h1, decide_eq_true h2, h3, h4]; simp
set_option maxRecDepth 100000 in
set_option maxHeartbeats 4000000 in
theorem Right_any (w : World) (cb : Nat) (q : Option Addr) (c : Nat) (L : List Mf) (h : CodeAt w cb q c L) (hfm : FmE w) (hmk : MkE w) : Calls Tryd.prog 8 #[ptr cb] w (LkP (rightV L) w) := by
  have k0 := h.c0
  have HA : Hid (CodeAt w cb q c L) := h
  have HEn : Hid (FmE w ∧ MkE w) := ⟨hfm, hmk⟩
  obtain ⟨n, hn⟩ : ∃ n, n = L.length := ⟨_, rfl⟩
  have HN : Hid (n = L.length) := hn
  have hn6 : n ≤ 1000000 := by rw [hn]; exact h.le.2
  rw [← hn] at k0
  generalize hG : LkP (rightV L) w = G
  have HG : Hid (LkP (rightV L) w = G) := hG
  have HFin : Hid (∀ W b, Below w.heap.size w W → rightV L = b → G (.returned (.bool b)) W) := fun W b hb hb2 => by rw [← HG.out, hb2]; exact ⟨rfl, hb⟩
  clear h hn hG hfm hmk
  by_cases h1 : 12 < n
  · have HX : Hid (G (.returned (.bool false)) w) := HFin.out w false (Below.refl _ _) (rv_1 (by rw [← HN.out]; omega))
    have t1 : decide ((12 : Int) < (n : Int)) = true := decide_eq_true (by omega)
    go_enter Tryd.func8, Tryd.ntmps8
    go_wp2
    exact HX.out
  have t1 : decide ((12 : Int) < (n : Int)) = false := decide_eq_false (by omega)
  have H12 : Hid (L.length ≤ 12) := by show _ ≤ _; rw [← HN.out]; omega
  have HBy : Hid (Calls Tryd.prog 22 #[ptr cb] w (ByP L q w)) := byName_any w cb q c L HA.out
  clear h1
  go_enter Tryd.func8, Tryd.ntmps8
  go_wp2_with (go_at_call 22; fail)
  refine HBy.out.mono ?_
  rintro e w1 ⟨f, m, rfl, hb1, hmp, hby⟩
  have HB1 : Hid (Below w.heap.size w w1) := hb1
  have HMp : Hid (Mp 9 w1 w.heap.size f m) := hmp
  have HBi : Hid (ByI L q L.length f m) := hby
  have HA1 : Hid (CodeAt w1 cb q c L) := HA.out.below hb1
  have k1 : w1.cell? ⟨cb, 0, none⟩ = some (.slice q n c) := by rw [hb1.cell (p := ⟨cb, 0, none⟩) (cell_lt k0)]; exact k0
  have lk := hmp.look kdS und62 (zero64 w1) (key_s ⟨#[109, 97, 105, 110]⟩ (by decide))
  have hln : ∀ ty, (Builtin.len_ #[62] ty #[.map (some w.heap.size)]).run Tryd.prog w1.drew = .ok (.int .i64 (m : Int)) w1.drew := fun ty => (hmp.kept (show w1.drew.heap[w.heap.size]? = w1.heap[w.heap.size]? from rfl)).len und62 ty
  have hm1 : m ≤ n := by rw [HN.out]; exact hby.le
  clear hb1 hmp hby k0
  by_cases hmn : m < n
  · have HX : Hid (G (.returned (.bool false)) w1.drew) := HFin.out w1.drew false HB1.out.drew (rv_2 (fun hnd => by
      have h1 := HBi.out.eq.2 (by rw [List.take_length]; exact hnd)
      have h2 := HN.out
      omega))
    have t2 : decide ((m : Int) < (n : Int)) = true := decide_eq_true (by omega)
    obtain ⟨mv, hmv⟩ : ∃ mv, mv = (f (Lit.string [109, 97, 105, 110])).getD (.pointer none) := ⟨_, rfl⟩
    have lk' : (Instr.lookup 62 (.map (some w.heap.size)) (.string ⟨#[109, 97, 105, 110]⟩) false).run Tryd.prog w1 = .ok mv w1 := by rw [hmv]; exact lk
    clear lk hmv
    go_wp2_with fail
    go_region
    go_wp2
    exact HX.out
  have hmn2 : m = n := by omega
  have HMN : Hid (m = L.length) := by show _ = _; rw [hmn2]; exact HN.out
  subst hmn2
  have t2 : decide ((m : Int) < (m : Int)) = false := decide_eq_false (by omega)
  rcases HBi.out.get HMN.out mainB with ⟨a1, a2⟩ | ⟨g, p, j, F, rfl, a2, a3, a4, a5⟩
  · have HX : Hid (G (.returned (.bool false)) w1.drew) := HFin.out w1.drew false HB1.out.drew (rv_3 (by unfold mainOk; rw [a2]))
    have lk' : (Instr.lookup 62 (.map (some w.heap.size)) (.string ⟨#[109, 97, 105, 110]⟩) false).run Tryd.prog w1 = .ok (.pointer none) w1 := by rw [lk]; show Result.ok ((f (Lit.string mainB)).getD (.pointer none)) w1 = _; rw [a1]; rfl
    clear lk a1 a2 hmn
    go_wp2_with fail
    go_region
    go_wp2
    exact HX.out
  have lk' : (Instr.lookup 62 (.map (some w.heap.size)) (.string ⟨#[109, 97, 105, 110]⟩) false).run Tryd.prog w1 = .ok (.pointer (some ⟨g, p + j * 4, none⟩)) w1 := by rw [lk]; show Result.ok ((f (Lit.string mainB)).getD (.pointer none)) w1 = _; rw [a4]; rfl
  have HFn : Hid (∀ j F, L[j]? = some F → FnAt w1 g (p + j * 4) F) := by
    rcases HA1.out.fn with h2 | ⟨g', p', e, h2⟩
    · rw [h2] at a2; simp at a2
    · injection e with e
      injection e with e1 e2
      subst e1 e2
      exact h2
  have hpa := (HFn.out j F a2).c1
  obtain ⟨pa, hpa2⟩ : ∃ pa, F.params = pa := ⟨_, rfl⟩
  rw [hpa2] at hpa
  have hpa' : w1.drew.cell? ⟨g, p + j * 4 + 1, none⟩ = some (.int .i64 pa) := hpa
  have k1' : w1.drew.cell? ⟨cb, 0, none⟩ = some (.slice (some ⟨g, p, none⟩) m c) := k1
  have HMo : Hid (mainOk L = (pa == 0)) := by show _ = _; unfold mainOk; rw [a5, ← hpa2]
  clear lk a2 a3 a4 a5 hmn hpa2
  by_cases h0 : pa = 0
  rotate_left
  · have HX : Hid (G (.returned (.bool false)) w1.drew) := HFin.out w1.drew false HB1.out.drew (rv_3 (by rw [HMo.out]; simpa using h0))
    have t3 : (pa != 0) = true := by simpa using h0
    clear h0
    go_wp2_with fail
    go_region
    go_wp2
    exact HX.out
  subst h0
  have HM2 : Hid (mainOk L = true) := by show _ = _; rw [HMo.out]; rfl
  go_wp2_with fail
  go_region
  go_wp2_with fail
  clear hln lk' hpa hpa' k1
  have k2 : w1.drew.cell? ⟨cb, 0, none⟩ = some (.slice (some ⟨g, p, none⟩) m c) := k1'
  obtain ⟨w2, hw2⟩ : ∃ w2, w2 = w1.drew := ⟨_, rfl⟩
  have HB2 : Hid (Below w.heap.size w w2) := by rw [hw2]; exact HB1.out.drew
  have HF2 : Hid (∀ j F, L[j]? = some F → FnAt w2 g (p + j * 4) F) := fun j F h => by rw [hw2]; exact (HFn.out j F h).below (Below.refl _ _).drew
  have HM3 : Hid (Mp 9 w2 w.heap.size f m) := by rw [hw2]; exact HMp.out.kept rfl
  have HA2 : Hid (CodeAt w2 cb (some ⟨g, p, none⟩) c L) := by rw [hw2]; exact HA1.out.below (Below.refl _ _).drew
  rw [← hw2] at k2 ⊢
  clear hw2 k1' HB1 HFn HMp HA1
  have hcc : m ≤ c := by have := HA2.out.le.1; have := HMN.out; omega
  go_loopw [45] (fun v wr => ∃ i : Nat, i ≤ m ∧ v = .int .i64 i ∧ Hid (Below w2.heap.size w2 wr) ∧ Hid ((L.take i).all placesB = true)) (fun v _ => m - (intOf v).toNat)
  case atStart => exact ⟨0, Nat.zero_le _, rfl, Below.refl _ _, (by show _ = _; simp)⟩
  case round =>
    obtain ⟨i, hin, rfl, HBr, HAll⟩ := hrel
    have HBw : Hid (Below w.heap.size w wr) := HB2.out.trans (HBr.out.mono HB2.out.size)
    have kr : wr.cell? ⟨cb, 0, none⟩ = some (.slice (some ⟨g, p, none⟩) m c) := by rw [HBr.out.cell (p := ⟨cb, 0, none⟩) (cell_lt k2)]; exact k2
    by_cases hlt2 : i < m
    · obtain ⟨F2, hF2⟩ : ∃ F, L[i]? = some F := ⟨L[i]'(by rw [← HMN.out]; exact hlt2), List.getElem?_eq_getElem _⟩
      have HC : Hid (Calls Tryd.prog 23 #[.pointer (some ⟨g, p + i * 4, none⟩)] wr (LkP (placesB F2) wr)) := places_any wr g (p + i * 4) F2 ((HF2.out i F2 hF2).below HBr.out)
      have HS2 : Hid (L[i]? = some F2) := hF2
      have hl9 : (i : Int) < (m : Int) := by omega
      clear hF2
      go_wp2_with (go_at_call 23; fail)
      refine HC.out.mono ?_
      rintro e w3 ⟨rfl, hb3⟩
      have HB3 : Hid (Below wr.heap.size wr w3) := hb3
      clear hb3
      cases hst : placesB F2 with
      | true =>
        have HA2 : Hid ((L.take (i + 1)).all placesB = true) := by show _ = _; rw [take_snoc HS2.out, List.all_append, HAll.out]; simp [hst]
        have HB4 : Hid (Below w2.heap.size w2 w3) := HBr.out.trans (HB3.out.mono HBr.out.size)
        clear hst
        go_wp2
        exact ⟨⟨i + 1, by omega, by go_num, HB4, HA2⟩, by simp [intOf]; omega⟩
      | false =>
        have HX : Hid (G (.returned (.bool false)) w3) := HFin.out w3 false (HBw.out.trans (HB3.out.mono HBw.out.size)) (rv_4 (all_bad2 HS2.out hst))
        clear hst
        go_wp2
        exact HX.out
    · have hin2 : i = m := by omega
      have HPl : Hid (L.all placesB = true) := by
        have := HAll.out
        rwa [hin2, List.take_of_length_le (by rw [HMN.out]; exact Nat.le_refl _)] at this
      have HRv : Hid (rightV L = L.all (rightB (fsL L))) := rv_5 H12.out (HBi.out.nodup HMN.out) HM2.out HPl.out
      subst hin2
      have HA3 : Hid (CodeAt wr cb (some ⟨g, p, none⟩) c L) := HA2.out.below HBr.out
      have HRt : Hid (RtE wr (fsL L) w.heap.size) := ⟨HEn.out.1.below HBw.out, HEn.out.2.below HBw.out, fns_of HA3.out (HM3.out.kept (HBr.out.block _ HM3.out.lt)) HBi.out HMN.out HPl.out⟩
      obtain ⟨w5, hw5⟩ : ∃ w5, w5 = wr := ⟨_, rfl⟩
      rw [← hw5] at kr HBw HBr HA3 HRt ⊢
      have HF5 : Hid (∀ j F, L[j]? = some F → FnAt w5 g (p + j * 4) F) := fun j F h => (HF2.out j F h).below HBr.out
      clear hw5
      go_wp2_with fail
      go_loopw [62] (fun v wr => ∃ i2 : Nat, i2 ≤ i ∧ v = .int .i64 i2 ∧ Hid (Below w5.heap.size w5 wr) ∧ Hid ((L.take i2).all (rightB (fsL L)) = true)) (fun v _ => i - (intOf v).toNat)
      case atStart => exact ⟨0, Nat.zero_le _, rfl, Below.refl _ _, (by show _ = _; simp)⟩
      case round =>
        obtain ⟨i2, hin2, rfl, HBs, HAl2⟩ := hrel
        obtain ⟨w6, hw6⟩ : ∃ w6, w6 = wr := ⟨_, rfl⟩
        rw [← hw6] at HBs ⊢
        clear hw6
        have HBx : Hid (Below w.heap.size w w6) := HBw.out.trans (HBs.out.mono HBw.out.size)
        have ks : w6.cell? ⟨cb, 0, none⟩ = some (.slice (some ⟨g, p, none⟩) i c) := by rw [HBs.out.cell (p := ⟨cb, 0, none⟩) (cell_lt kr)]; exact kr
        by_cases hlt3 : i2 < i
        · obtain ⟨F2, hF2⟩ : ∃ F, L[i2]? = some F := ⟨L[i2]'(by rw [← HMN.out]; exact hlt3), List.getElem?_eq_getElem _⟩
          have HC : Hid (Calls Tryd.prog 24 #[.pointer (some ⟨g, p + i2 * 4, none⟩), .map (some w.heap.size)] w6 (LkP (rightB (fsL L) F2) w6)) := right_any w6 (fsL L) g (p + i2 * 4) w.heap.size F2 ((HF5.out i2 F2 hF2).below HBs.out) (HRt.out.below HBs.out)
          have HS2 : Hid (L[i2]? = some F2) := hF2
          have hl9 : (i2 : Int) < (i : Int) := by omega
          clear hF2
          go_wp2_with (go_at_call 24; fail)
          refine HC.out.mono ?_
          rintro e w7 ⟨rfl, hb7⟩
          have HB7 : Hid (Below w6.heap.size w6 w7) := hb7
          clear hb7
          cases hst : rightB (fsL L) F2 with
          | true =>
            have HA2 : Hid ((L.take (i2 + 1)).all (rightB (fsL L)) = true) := by show _ = _; rw [take_snoc HS2.out, List.all_append, HAl2.out]; simp [hst]
            have HB4 : Hid (Below w5.heap.size w5 w7) := HBs.out.trans (HB7.out.mono HBs.out.size)
            clear hst
            go_wp2
            exact ⟨⟨i2 + 1, by omega, by go_num, HB4, HA2⟩, by simp [intOf]; omega⟩
          | false =>
            have HX : Hid (G (.returned (.bool false)) w7) := HFin.out w7 false (HBx.out.trans (HB7.out.mono HBx.out.size)) (by rw [HRv.out, all_bad2 HS2.out hst])
            clear hst
            go_wp2
            exact HX.out
        · have hin3 : i2 = i := by omega
          have HX : Hid (G (.returned (.bool true)) w6) := HFin.out w6 true HBx.out (by
            have := HAl2.out
            rw [hin3, List.take_of_length_le (by rw [HMN.out]; exact Nat.le_refl _)] at this
            rw [HRv.out, this])
          subst hin3
          go_wp2
          exact HX.out
end Go.Proofs.YtjmbjpimabnohaaDoor.Mid
