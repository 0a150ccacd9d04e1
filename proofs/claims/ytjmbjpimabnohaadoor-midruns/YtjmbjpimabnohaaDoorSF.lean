/- The document's RightCode, walked. -/
import Derived.Test.YtjmbjpimabnohaaDoorSE
namespace Go.Proofs.YtjmbjpimabnohaaDoor.Mid
set_option linter.unusedVariables false
set_option linter.unusedSimpArgs false
open Go Go.RowKit

/-- A function's cells, each by its name. -/
theorem fn_cells {w W : World} {b o : Nat} {F : Mf} (h : FnAt w b o F) (hb : Below w.heap.size w W) : ∃ y pa qt ct qs cs, y = (⟨F.name.toArray⟩ : ByteArray) ∧ pa = F.params ∧ W.cell? ⟨b, o, none⟩ = some (.string y) ∧ W.cell? ⟨b, o + 1, none⟩ = some (.int .i64 pa) ∧ W.cell? ⟨b, o + 2, none⟩ = some (.slice qt F.types.length ct) ∧ W.cell? ⟨b, o + 3, none⟩ = some (.slice qs F.steps.length cs) ∧ F.steps.length ≤ cs ∧ IntsAt W (.slice qt F.types.length ct) F.types ∧ (F.steps = [] ∨ ∃ g p, qs = some ⟨g, p, none⟩ ∧ ∀ j s, F.steps[j]? = some s → StepAt W g (p + j * 10) s) := by
  have h := h.below hb
  obtain ⟨v, h2, h2'⟩ := h.c2
  obtain ⟨qt, ct, rfl, h2''⟩ := ints_form h2'
  obtain ⟨qs, cs, h3, h3', h3''⟩ := h.c3
  exact ⟨_, _, qt, ct, qs, cs, rfl, rfl, h.c0, h.c1, h2, h3, h3', h2', h3''⟩
theorem pl_5 {F : Mf} (h : F.types.all plT = false) : placesB F = false := by unfold placesB; rw [h]; simp
theorem OfE.below {w w' : World} {fs : By → Option Mf} {ob : Nat} {ql : Option Addr} {nl cl : Nat} (h : OfE w fs ob ql nl cl) (hb : Below w.heap.size w w') : OfE w' fs ob ql nl cl := by
  refine ⟨Nat.lt_of_lt_of_le h.1 hb.size, fun nm hnm => ?_⟩
  have hk := hb.block ob h.1
  rcases h.2 nm hnm with ⟨a1, k, a2⟩ | ⟨g, p, j, G, a1, a2, a3, a4, a5, a6, ⟨qG, cG, a7, a8⟩, a9⟩
  · exact .inl ⟨a1, k, fun W hW => a2 W (hW.trans hk)⟩
  · exact .inr ⟨g, p, j, G, a1, a2, a3, a4, a5.below hb, a6, ⟨qG, cG, by rw [hb.cell (p := ⟨g, p + j * 4 + 2, none⟩) (cell_lt a7)]; exact a7, a8⟩, fun W hW => a9 W (hW.trans hk)⟩
set_option maxRecDepth 100000 in
set_option maxHeartbeats 8000000 in
theorem RightCode_any (w : World) (ql : Option Addr) (c : Nat) (L : List Mf) (h : RowAt w ql c L) (hmx : ∃ m, w.cell? ⟨3, 0, none⟩ = some (.int .i64 m)) : Calls Tryd.prog 9 #[.slice ql L.length c] w (LkP (rightV L) w) := by
  have HA : Hid (RowAt w ql c L) := h
  have HMx : Hid (∃ m, w.cell? ⟨3, 0, none⟩ = some (.int .i64 m)) := hmx
  obtain ⟨n, hn⟩ : ∃ n, n = L.length := ⟨_, rfl⟩
  have HN : Hid (n = L.length) := hn
  have hn6 : n ≤ 1000000 := by rw [hn]; exact h.le.2
  have hnc : n ≤ c := by rw [hn]; exact h.le.1
  have hmm : ∀ W : World, (Instr.makeMap 66 none).run Tryd.prog W = .ok (.map (some W.heap.size)) (W.alloc (.map #[] 0)) := fun W => by simp [Instr.makeMap, go_sem]
  have hmm2 : ∀ W : World, (Instr.makeMap 69 none).run Tryd.prog W = .ok (.map (some W.heap.size)) (W.alloc (.map #[] 0)) := fun W => by simp [Instr.makeMap, go_sem]
  generalize hG : LkP (rightV L) w = G
  have HG : Hid (LkP (rightV L) w = G) := hG
  have HFin : Hid (∀ W b, Below w.heap.size w W → rightV L = b → G (.returned (.bool b)) W) := fun W b hb hb2 => by rw [← HG.out, hb2]; exact ⟨rfl, hb⟩
  have HFin2 : Hid (∀ W W' b, Below w.heap.size w W → Below W.heap.size W W' → rightV L = b → G (.returned (.bool b)) W') := fun W W' b h1 h2 h3 => HFin.out W' b (h1.trans (h2.mono h1.size)) h3
  rw [← hn]
  clear h hmx hn hG
  have HS0 : Hid (OfI L w (w.alloc (.map #[] 0)) 0) := ⟨al_bel2 _ _, ⟨0, Nat.le_refl _, by
    have e : idxF (L.take 0) = fun _ => none := by
      funext y
      cases y <;> rfl
    rw [e]; exact Mp.made 9 w⟩, by simp, by simp⟩
  go_enter Tryd.func9, Tryd.ntmps9
  go_wp2_with fail
  obtain ⟨W4, hW4⟩ : ∃ W4, W4 = w.alloc (.map #[] 0) := ⟨_, rfl⟩
  rw [← hW4] at HS0 ⊢
  clear hW4 hmm
  go_loopw [23] (fun v wr => ∃ i : Nat, i ≤ n ∧ v = .int .i64 i ∧ Hid (OfI L w wr i)) (fun v _ => n - (intOf v).toNat)
  case atStart => exact ⟨0, Nat.zero_le _, rfl, HS0⟩
  case round =>
    obtain ⟨i, hin, rfl, HI⟩ := hrel
    by_cases hlt2 : i < n
    · obtain ⟨F, hF⟩ : ∃ F, L[i]? = some F := ⟨L[i]'(by rw [← HN.out]; exact hlt2), List.getElem?_eq_getElem _⟩
      obtain ⟨g, p, rfl, hfn⟩ : ∃ g p, ql = some ⟨g, p, none⟩ ∧ ∀ j F, L[j]? = some F → FnAt w g (p + j * 4) F := by
        rcases HA.out.fn with h | ⟨g, p, e, h⟩
        · rw [h] at hF; simp at hF
        · exact ⟨g, p, e, fun j F hF => (h j F hF).1⟩
      obtain ⟨y, pa, qt, ct, qs, cs, hy, hpa, d0, d1, d2, d3, _, _, _⟩ := fn_cells (hfn i F hF) HI.out.bel
      have hnl := (hfn i F hF).i2
      obtain ⟨nt, hnt⟩ : ∃ nt, nt = F.types.length := ⟨_, rfl⟩
      obtain ⟨ns, hns⟩ : ∃ ns, ns = F.steps.length := ⟨_, rfl⟩
      rw [← hnt] at d2
      rw [← hns] at d3
      have hnt6 : nt ≤ 1000000 := by omega
      obtain ⟨W7, hW7⟩ : ∃ W7, W7 = wr.alloc (.cells #[.string y, .int .i64 pa, .slice qt nt ct, .slice qs ns cs] 57) := ⟨_, rfl⟩
      have HB7 : Hid (Below wr.heap.size wr W7) := by rw [hW7]; exact al_bel2 _ _
      have HBw : Hid (Below w.heap.size w W7) := HI.out.bel.trans (HB7.out.mono HI.out.bel.size)
      obtain ⟨m, _, hm⟩ := HI.out.mp
      have lk := (hm.kept (HB7.out.block _ hm.lt)).look2 kdS und66 (zero3 W7) (by
        have := key_s y (by rw [hy]; have := hnl.1; simpa [ByteArray.size] using this)
        exact this)
      have hyl : y.data.toList = F.name := by rw [hy]
      rw [hyl] at lk
      have HF : Hid (L[i]? = some F) := hF
      have HPa : Hid (parB F = inB pa 0 (nt : Int)) := by show _ = _; unfold parB; rw [hpa, hnt]
      have hl9 : (i : Int) < (n : Int) := by omega
      cases hfi : (L.take i).findIdx? (fun G => G.name == F.name) with
      | some k =>
        have e1 : idxF (L.take i) (.string F.name) = some (.int .i64 (k : Int)) := by show ((L.take i).findIdx? (fun G => G.name == F.name)).map _ = _; rw [hfi]; rfl
        rw [e1] at lk
        have lk' : (Instr.lookup 66 (.map (some w.heap.size)) (.string y) true).run Tryd.prog W7 = .ok (.tuple #[.int .i64 (k : Int), .bool true]) W7 := lk
        have HX : Hid (G (.returned (.bool false)) W7) := HFin.out W7 false HBw.out (rv_2 (fun hnd => by
          have h1 : ((L.take (i + 1)).map (·.name)).Nodup := hnd.sublist ((List.take_sublist _ _).map _)
          rw [take_snoc HF.out] at h1
          have h2 := idx_none.2 (nodup_snoc.1 h1).2
          rw [hfi] at h2
          cases h2))
        rw [hW7] at lk' HX
        clear hfi e1 lk hm hyl hy hpa hF hfn hnt hns hnl hW7 HB7 HBw
        go_wp2
        exact HX.out
      | none =>
        have e1 : idxF (L.take i) (.string F.name) = none := by show ((L.take i).findIdx? (fun G => G.name == F.name)).map _ = _; rw [hfi]; rfl
        rw [e1] at lk
        have lk' : (Instr.lookup 66 (.map (some w.heap.size)) (.string y) true).run Tryd.prog W7 = .ok (.tuple #[.int .i64 0, .bool false]) W7 := lk
        cases hpb : parB F with
        | false =>
          have HX : Hid (G (.returned (.bool false)) W7) := HFin.out W7 false HBw.out (rv_4' (List.mem_of_getElem? HF.out) (par_places hpb))
          have HC : Hid (∀ W, Calls Tryd.prog 25 #[.int .i64 pa, .int .i64 0, .int .i64 (nt : Int)] W (LqP false W)) := fun W => by rw [← hpb, HPa.out]; exact in_any _ _ _ _
          rw [hW7] at lk' HX
          clear hfi e1 lk hm hyl hy hpa hF hfn hnt hns hnl hW7 HB7 HBw hpb
          go_wp2_with (go_at_call 25; refine (HC.out _).mono ?_; rintro e w' ⟨rfl, rfl⟩)
          exact HX.out
        | true =>
          obtain ⟨w9, q1, q2⟩ := of_put HI.out HF.out (idx_none.1 hfi) hpb HB7.out hnl.1 (by omega)
          rw [← hy] at q1
          have HC : Hid (∀ W, Calls Tryd.prog 25 #[.int .i64 pa, .int .i64 0, .int .i64 (nt : Int)] W (LqP true W)) := fun W => by rw [← hpb, HPa.out]; exact in_any _ _ _ _
          have HL9 : Hid (OfI L w w9 (i + 1)) := q2
          rw [hW7] at lk' q1
          clear hfi e1 lk hm hyl hy hpa hF hfn hnt hns hnl hW7 HB7 HBw hpb q2
          go_wp2_with (go_at_call 25; refine (HC.out _).mono ?_; rintro e w' ⟨rfl, rfl⟩)
          exact ⟨⟨i + 1, by omega, by go_num, HL9⟩, by simp [intOf]; omega⟩
    · have hin2 : i = n := by omega
      obtain ⟨w1, hw1⟩ : ∃ w1, w1 = wr := ⟨_, rfl⟩
      rw [← hw1] at HI ⊢
      clear hw1
      subst hin2
      have HB1 : Hid (Below w.heap.size w w1) := HI.out.bel
      have htk : L.take i = L := by rw [HN.out, List.take_length]
      have HNd : Hid ((L.map (·.name)).Nodup) := by have := HI.out.nd; rw [htk] at this; exact this
      have HRow : Hid (RowAt w1 ql c L) := HA.out.below HI.out.bel
      have HOf : Hid (OfE w1 (fsL L) w.heap.size ql i c) := by
        obtain ⟨m, _, hm⟩ := HI.out.mp
        have hp := HI.out.pr
        rw [htk] at hm hp
        have := of_e (w := w) HRow.out hm hp
        rw [← HN.out] at this
        exact this
      clear htk
      rcases HOf.out.2 mainB (by decide) with ⟨a1, k, a2⟩ | ⟨g, p, j, Fm, rfl, a1, a2, a3, a4, a5, a6, a7⟩
      · have lk : (Instr.lookup 66 (.map (some w.heap.size)) (.string ⟨#[109, 97, 105, 110]⟩) true).run Tryd.prog w1 = .ok (.tuple #[.int .i64 k, .bool false]) w1 := a2 w1 rfl
        have HX : Hid (G (.returned (.bool false)) w1) := HFin.out w1 false HB1.out (rv_3 (by unfold mainOk; rw [a1]))
        clear a1 a2
        go_wp2
        exact HX.out
      have lk : (Instr.lookup 66 (.map (some w.heap.size)) (.string ⟨#[109, 97, 105, 110]⟩) true).run Tryd.prog w1 = .ok (.tuple #[.int .i64 (j : Int), .bool true]) w1 := a7 w1 rfl
      have c1 := a4.c1
      obtain ⟨pm, hpm⟩ : ∃ pm, Fm.params = pm := ⟨_, rfl⟩
      rw [hpm] at c1
      have HMo : Hid (mainOk L = (pm == 0)) := by show _ = _; unfold mainOk; rw [a3, ← hpm]
      have hjl : (j : Int) < (i : Int) := by omega
      clear a1 a2 a3 a4 a5 a6 a7 hpm
      by_cases h0 : pm = 0
      rotate_left
      · have HX : Hid (G (.returned (.bool false)) w1) := HFin.out w1 false HB1.out (rv_3 (by rw [HMo.out]; simpa using h0))
        have t3 : (pm != 0) = true := by simpa using h0
        clear h0
        go_wp2
        exact HX.out
      subst h0
      by_cases h12 : 12 < i
      · have HX : Hid (G (.returned (.bool false)) w1) := HFin.out w1 false HB1.out (rv_1 (by rw [← HN.out]; omega))
        have t1 : decide ((12 : Int) < (i : Int)) = true := decide_eq_true (by omega)
        clear h12
        go_wp2
        exact HX.out
      have t1 : decide ((12 : Int) < (i : Int)) = false := decide_eq_false (by omega)
      have H12 : Hid (L.length ≤ 12) := by show _ ≤ _; rw [← HN.out]; omega
      have HMok : Hid (mainOk L = true) := by show _ = _; rw [HMo.out]; rfl
      clear h12
      go_wp2_with fail
      clear lk c1 t1
      go_loopw [72] (fun v wr => ∃ i2 : Nat, i2 ≤ i ∧ v = .int .i64 i2 ∧ Hid (Below w1.heap.size w1 wr) ∧ Hid ((L.take i2).all placesB = true ∧ (L.take i2).all (rightB (fsL L)) = true)) (fun v _ => i - (intOf v).toNat)
      case atStart => exact ⟨0, Nat.zero_le _, rfl, Below.refl _ _, ⟨by simp, by simp⟩⟩
      case round =>
        obtain ⟨i2, hi2, rfl, HBr, HAll⟩ := hrel
        obtain ⟨w2, hw2⟩ : ∃ w2, w2 = wr := ⟨_, rfl⟩
        rw [← hw2] at HBr ⊢
        clear hw2
        have HBw : Hid (Below w.heap.size w w2) := HB1.out.trans (HBr.out.mono HB1.out.size)
        by_cases hlt3 : i2 < i
        · obtain ⟨F, hF⟩ : ∃ F, L[i2]? = some F := ⟨L[i2]'(by rw [← HN.out]; exact hlt3), List.getElem?_eq_getElem _⟩
          have hfn : FnAt w1 g (p + i2 * 4) F := by
            rcases HRow.out.fn with h | ⟨g', p', e, h⟩
            · rw [h] at hF; simp at hF
            · injection e with e
              injection e with e1 e2
              subst e1 e2
              exact (h i2 F hF).1
          obtain ⟨y, pa, qt, ct, qs, cs, hy, hpa, d0, d1, d2, d3, hcs, hity, hstp⟩ := fn_cells hfn HBr.out
          have hnl := hfn.i2
          obtain ⟨nt, hnt⟩ : ∃ nt, nt = F.types.length := ⟨_, rfl⟩
          obtain ⟨ns, hns⟩ : ∃ ns, ns = F.steps.length := ⟨_, rfl⟩
          rw [← hnt] at d2
          rw [← hns] at d3 hcs
          have hnt6 : nt ≤ 1000000 := by omega
          have hns6 : ns ≤ 1000000 := by omega
          have HF : Hid (L[i2]? = some F ∧ F ∈ L) := ⟨hF, List.mem_of_getElem? hF⟩
          have HNt : Hid (nt = F.types.length ∧ ns = F.steps.length) := ⟨hnt, hns⟩
          have HIt : Hid (IntsAt w2 (.slice qt F.types.length ct) F.types) := hity
          have HSp : Hid (F.steps = [] ∨ ∃ g p, qs = some ⟨g, p, none⟩ ∧ ∀ j s, F.steps[j]? = some s → StepAt w2 g (p + j * 10) s) := hstp
          obtain ⟨W7, hW7⟩ : ∃ W7, W7 = w2.alloc (.cells #[.string y, .int .i64 pa, .slice qt nt ct, .slice qs ns cs] 57) := ⟨_, rfl⟩
          have HB7 : Hid (Below w2.heap.size w2 W7) := by rw [hW7]; exact al_bel2 _ _
          have HBw7 : Hid (Below w.heap.size w W7) := HBw.out.trans (HB7.out.mono HBw.out.size)
          have HK7 : Hid (W7.heap[w2.heap.size]? = some (.cells #[.string y, .int .i64 pa, .slice qt nt ct, .slice qs ns cs] 57) ∧ W7.heap.size = w2.heap.size + 1) := by rw [hW7]; exact ⟨heap_alloc_last _ _, by simp⟩
          have hl9 : (i2 : Int) < (i : Int) := by omega
          clear hF hfn hity hstp hnt hns hnl hy hpa
          by_cases g1 : ns < 1
          · have HX : Hid (G (.returned (.bool false)) W7) := HFin.out W7 false HBw7.out (rv_6 HF.out.2 (rb_1 (by rw [← HNt.out.2]; omega)))
            have t1 : decide ((ns : Int) < 1) = true := decide_eq_true (by omega)
            rw [hW7] at HX
            clear g1 hW7
            go_wp2
            exact HX.out
          by_cases g2 : 6000 < ns
          · have HX : Hid (G (.returned (.bool false)) W7) := HFin.out W7 false HBw7.out (rv_6 HF.out.2 (rb_1 (by rw [← HNt.out.2]; omega)))
            have t1 : decide ((ns : Int) < 1) = false := decide_eq_false (by omega)
            have t2 : decide ((6000 : Int) < (ns : Int)) = true := decide_eq_true (by omega)
            rw [hW7] at HX
            clear g1 g2 hW7
            go_wp2
            exact HX.out
          by_cases g3 : 3000 < nt
          · have HX : Hid (G (.returned (.bool false)) W7) := HFin.out W7 false HBw7.out (rv_4' HF.out.2 (pl_3 (by rw [← HNt.out.1]; exact g3)))
            have t1 : decide ((ns : Int) < 1) = false := decide_eq_false (by omega)
            have t2 : decide ((6000 : Int) < (ns : Int)) = false := decide_eq_false (by omega)
            have t3 : decide ((3000 : Int) < (nt : Int)) = true := decide_eq_true (by omega)
            rw [hW7] at HX
            clear g1 g2 g3 hW7
            go_wp2
            exact HX.out
          obtain ⟨n', hn'⟩ : ∃ n', ns = n' + 1 := ⟨ns - 1, by omega⟩
          obtain ⟨s0, hs0⟩ : ∃ s, F.steps[n']? = some s := ⟨F.steps[n']'(by rw [← HNt.out.2]; omega), List.getElem?_eq_getElem _⟩
          have k0 : ∃ gs ps, qs = some ⟨gs, ps, none⟩ ∧ W7.cell? ⟨gs, ps + n' * 10, none⟩ = some (.int .i64 s0.code) := by
            rcases HSp.out with h | ⟨gs, ps, e, h⟩
            · rw [h] at hs0; simp at hs0
            · exact ⟨gs, ps, e, ((h n' s0 hs0).below HB7.out).c0⟩
          obtain ⟨gs0, ps0, hqs, k0⟩ := k0
          obtain ⟨cd0, hcd0⟩ : ∃ cd0, s0.code = cd0 := ⟨_, rfl⟩
          rw [hcd0] at k0
          have HLs : Hid (lastB F = (cd0 == 8 || cd0 == 4)) := by
            show _ = _
            unfold lastB
            rw [← HNt.out.2, show ns - 1 = n' by omega, hs0, ← hcd0]
          have hix : (ns : Int) - 1 = (n' : Int) := by omega
          have hn9 : (n' : Int) < (ns : Int) := by omega
          have t1 : decide ((ns : Int) < 1) = false := decide_eq_false (by omega)
          have t2 : decide ((6000 : Int) < (ns : Int)) = false := decide_eq_false (by omega)
          have t3 : decide ((3000 : Int) < (nt : Int)) = false := decide_eq_false (by omega)
          have HR6 : Hid ((1 ≤ F.steps.length ∧ F.steps.length ≤ 6000) ∧ ¬ 3000 < F.types.length) := by rw [← HNt.out.1, ← HNt.out.2]; exact ⟨⟨by omega, by omega⟩, g3⟩
          rw [hW7] at k0
          clear hs0 hcd0 g1 g2 g3 hn'
          subst hqs
          cases hl : (cd0 == 8 || cd0 == 4) with
          | false =>
            have HX : Hid (G (.returned (.bool false)) W7) := HFin.out W7 false HBw7.out (rv_6 HF.out.2 (rb_2 (by rw [HLs.out, hl])))
            have u8 : (cd0 != 8) = true := by simp at hl; simp [hl]
            have u4 : (cd0 != 4) = true := by simp at hl; simp [hl]
            rw [hW7] at HX
            clear hl hW7
            go_wp2
            exact HX.out
          | true =>
            have HL2 : Hid (lastB F = true) := by show _ = _; rw [HLs.out, hl]
            have hcd : cd0 = 8 ∨ cd0 = 4 := by simpa using hl
            clear hl HLs
            go_upto_region 17 with fail
            go_cut [72, 110] from 72 to 169 (fun v72 v110 wx => v72 = .int .i64 (i2 : Int) ∧ v110 = .bool false ∧ wx = W7)
            case first =>
              rcases hcd with rfl | rfl
              all_goals
                go_wp2_with fail
                go_meet
                exact ⟨rfl, rfl, hW7.symm⟩
            case rest =>
              obtain ⟨rfl, rfl, hwc⟩ := hcut
              rw [hwc]
              clear hwc hcd k0 hix hn9 t1 t2 t3 d0 d1 d2 d3 hW7
              have m2 := cell_at (i := 2) HK7.out.1 rfl
              have m3 := cell_at (i := 3) HK7.out.1 rfl
              have m2' := cell_old (A := .map #[] 0) m2
              have m3' := cell_old (A := .map #[] 0) m3
              go_wp2_with fail
              obtain ⟨W8, hW8⟩ : ∃ W8, W8 = W7.alloc (.map #[] 0) := ⟨_, rfl⟩
              rw [← hW8] at m2' m3' ⊢
              have HB8 : Hid (Below W7.heap.size W7 W8) := by rw [hW8]; exact al_bel2 _ _
              have HM8 : Hid (Mp 3 W8 W7.heap.size (cntF (F.steps.take 0)) 0) := by
                have e : cntF (F.steps.take 0) = fun _ => none := by
                  funext y
                  cases y with
                  | int k x => cases k <;> rfl
                  | _ => rfl
                rw [hW8, e]; exact Mp.made 3 W7
              have HB28 : Hid (Below w2.heap.size w2 W8) := HB7.out.trans (HB8.out.mono HB7.out.size)
              have HBw8 : Hid (Below w.heap.size w W8) := HBw.out.trans (HB28.out.mono HBw.out.size)
              clear hW8
              go_loopw [115] (fun v wr => ∃ i3 : Nat, i3 ≤ nt ∧ v = .int .i64 i3 ∧ wr = W8 ∧ Hid ((F.types.take i3).all plT = true)) (fun v _ => nt - (intOf v).toNat)
              case atStart => exact ⟨0, Nat.zero_le _, rfl, rfl, (by show _ = _; simp)⟩
              case round =>
                obtain ⟨i3, hi3, rfl, rfl, HA3⟩ := hrel
                by_cases hlt4 : i3 < nt
                · obtain ⟨x, hx⟩ : ∃ x, F.types[i3]? = some x := ⟨F.types[i3]'(by rw [← HNt.out.1]; exact hlt4), List.getElem?_eq_getElem _⟩
                  obtain ⟨gt, ot, rfl, k3⟩ := ints_cell HIt.out HB28.out hx
                  have hl8 : (i3 : Int) < (nt : Int) := by omega
                  have HX : Hid (F.types[i3]? = some x) := hx
                  clear hx
                  cases ht : plT x with
                  | true =>
                    have HA2 : Hid ((F.types.take (i3 + 1)).all plT = true) := by show _ = _; rw [take_snoc HX.out, List.all_append, HA3.out]; simp [ht]
                    have tx : x = 1 ∨ x = 2 := by simpa [plT] using ht
                    clear ht
                    rcases tx with rfl | rfl
                    all_goals
                      go_wp2
                      exact ⟨⟨i3 + 1, by omega, by go_num, by trivial, HA2⟩, by simp [intOf]; omega⟩
                  | false =>
                    have HE : Hid (G (.returned (.bool false)) wr) := HFin.out _ false HBw8.out (rv_4' HF.out.2 (pl_5 (all_bad HX.out ht)))
                    have tx : (x == 1) = false ∧ (x == 2) = false := by simpa [plT] using ht
                    obtain ⟨tx1, tx2⟩ := tx
                    have tx3 : (x != 1) = true := by simp [bne, tx1]
                    have tx4 : (x != 2) = true := by simp [bne, tx2]
                    clear ht
                    go_wp2
                    exact HE.out
                · have hi4 : i3 = nt := by omega
                  have HPl : Hid (placesB F = true) := by
                    show _ = _
                    have hpr := par_range (List.all_eq_true.1 HI.out.pr F (by rw [HN.out, List.take_length]; exact HF.out.2))
                    rw [pl_4 (by omega) (by omega) HR6.out.2]
                    have h9 := HA3.out
                    rwa [hi4, HNt.out.1, List.take_length] at h9
                  subst hi4
                  clear HA3
                  obtain ⟨W8, hw8⟩ : ∃ W8, W8 = wr := ⟨_, rfl⟩
                  rw [← hw8] at m2' m3' HB8 HM8 HB28 HBw8 ⊢
                  clear hw8
                  go_wp2_with fail
                  go_loopw [129] (fun v wr => ∃ i4 : Nat, i4 ≤ ns ∧ v = .int .i64 i4 ∧ Hid (Below W7.heap.size W7 wr ∧ W7.heap.size < wr.heap.size ∧ ∃ m, m ≤ i4 ∧ Mp 3 wr W7.heap.size (cntF (F.steps.take i4)) m)) (fun v _ => ns - (intOf v).toNat)
                  case atStart => exact ⟨0, Nat.zero_le _, rfl, ⟨HB8.out, HM8.out.lt, 0, Nat.le_refl _, HM8.out⟩⟩
                  case round =>
                    obtain ⟨i4, hi4, rfl, HC4⟩ := hrel
                    have HB2r : Hid (Below w2.heap.size w2 wr) := HB7.out.trans (HC4.out.1.mono HB7.out.size)
                    by_cases hlt5 : i4 < ns
                    · obtain ⟨s2, hs2⟩ : ∃ s, F.steps[i4]? = some s := ⟨F.steps[i4]'(by rw [← HNt.out.2]; exact hlt5), List.getElem?_eq_getElem _⟩
                      have hsts : ∀ j s, F.steps[j]? = some s → StepAt w2 gs0 (ps0 + j * 10) s := by
                        rcases HSp.out with h | ⟨g9, p9, e9, h⟩
                        · rw [h] at hs2; simp at hs2
                        · injection e9 with e9
                          injection e9 with e9 e9'
                          subst e9 e9'
                          exact h
                      have HSA : Hid (StepAt wr gs0 (ps0 + i4 * 10) s2) := (hsts i4 s2 hs2).below HB2r.out
                      have e0 := HSA.out.c0
                      have e1 := HSA.out.c1
                      have e2 := HSA.out.c2
                      have e3 := HSA.out.c3
                      have e4 := HSA.out.c4
                      have e5 := HSA.out.c5
                      have e6 := HSA.out.c6
                      have e7 := HSA.out.c7
                      have e8 := HSA.out.c8
                      obtain ⟨va, hva, hia⟩ := HSA.out.c9
                      obtain ⟨qa, ca, rfl, hia'⟩ := ints_form hia
                      have e9 := hva
                      obtain ⟨na, hna⟩ : ∃ na, na = s2.args.length := ⟨_, rfl⟩
                      rw [← hna] at e9 hia'
                      obtain ⟨y6, hy6⟩ : ∃ y6 : ByteArray, y6 = ⟨s2.op.toArray⟩ := ⟨_, rfl⟩
                      obtain ⟨y8, hy8⟩ : ∃ y8 : ByteArray, y8 = ⟨s2.name.toArray⟩ := ⟨_, rfl⟩
                      rw [← hy6] at e6
                      rw [← hy8] at e8
                      obtain ⟨cd, hcd⟩ : ∃ cd, s2.code = cd := ⟨_, rfl⟩
                      obtain ⟨lb, hlb⟩ : ∃ lb, s2.label = lb := ⟨_, rfl⟩
                      rw [hcd] at e0
                      rw [hlb] at e7
                      have HS2 : Hid (F.steps[i4]? = some s2 ∧ s2.code = cd ∧ s2.label = lb ∧ I64 lb) := ⟨hs2, hcd, hlb, by rw [← hlb]; exact HSA.out.i1.2.2.2.2.2.2⟩
                      have HSv : Hid (StV wr s2 y6 y8 qa na ca) := ⟨by rw [hy6], hy8, hia', hna, HSA.out.i1, HSA.out.i2⟩
                      obtain ⟨W9, hW9⟩ : ∃ W9, W9 = wr.alloc (.cells #[.int .i64 cd, .int .i64 s2.dst, .int .i64 s2.a, .int .i64 s2.b, .int .i64 s2.c, .int .i64 s2.n, .string y6, .int .i64 lb, .string y8, .slice qa na ca] 58) := ⟨_, rfl⟩
                      have HB9 : Hid (Below wr.heap.size wr W9) := by rw [hW9]; exact al_bel2 _ _
                      have HK9 : Hid (W9.heap[wr.heap.size]? = some (.cells #[.int .i64 cd, .int .i64 s2.dst, .int .i64 s2.a, .int .i64 s2.b, .int .i64 s2.c, .int .i64 s2.n, .string y6, .int .i64 lb, .string y8, .slice qa na ca] 58)) := by rw [hW9]; exact heap_alloc_last _ _
                      have hl7 : (i4 : Int) < (ns : Int) := by omega
                      obtain ⟨m, hm1, hm2⟩ := HC4.out.2.2
                      have hm9 : Mp 3 W9 W7.heap.size (cntF (F.steps.take i4)) m := hm2.kept (HB9.out.block _ hm2.lt)
                      by_cases h6 : cd = 6
                      · subst h6
                        obtain ⟨kc, hkc⟩ : ∃ kc, cntL (F.steps.take i4) lb = kc := ⟨_, rfl⟩
                        have hk6 : kc ≤ 1000000 := by
                          have h1 := cnt_le (l := F.steps.take i4) (x := lb)
                          rw [List.length_take, hkc] at h1
                          omega
                        have lk := (lab_c hm9).2 W9 rfl lb HS2.out.2.2.2
                        rw [hkc] at lk
                        obtain ⟨w9, mm, q1, q2, q3, q4⟩ := cnt_put (s := s2) hm9 (by omega) HS2.out.2.1 (by rw [HS2.out.2.2.1]; exact HS2.out.2.2.2)
                        rw [HS2.out.2.2.1, hkc] at q1
                        rw [← take_snoc HS2.out.1] at q2
                        have HC5 : Hid (Below W7.heap.size W7 w9 ∧ W7.heap.size < w9.heap.size ∧ ∃ m, m ≤ i4 + 1 ∧ Mp 3 w9 W7.heap.size (cntF (F.steps.take (i4 + 1))) m) := ⟨(HC4.out.1.trans (HB9.out.mono HC4.out.1.size)).grown q4 (Nat.le_trans HC4.out.1.size HB9.out.size) (fun k e => by injection e with e; omega), q2.lt, mm, by omega, q2⟩
                        rw [hW9] at lk q1
                        clear hs2 hsts hva hia hia' hna hy6 hy8 hcd hlb hm9 hm2 hkc q2 q3 q4 hW9
                        go_wp2
                        exact ⟨⟨i4 + 1, by omega, by go_num, HC5⟩, by simp [intOf]; omega⟩
                      · have t6 : (cd == 6) = false := by simpa using h6
                        have HC5 : Hid (Below W7.heap.size W7 W9 ∧ W7.heap.size < W9.heap.size ∧ ∃ m, m ≤ i4 + 1 ∧ Mp 3 W9 W7.heap.size (cntF (F.steps.take (i4 + 1))) m) := ⟨HC4.out.1.trans (HB9.out.mono HC4.out.1.size), hm9.lt, m, by omega, by rw [take_snoc HS2.out.1, cnt_skip (by rw [HS2.out.2.1]; exact h6)]; exact hm9⟩
                        rw [hW9] at HC5
                        clear hs2 hsts hva hia hia' hna hy6 hy8 hcd hlb hm9 hm2 hW9 h6
                        go_wp2
                        exact ⟨⟨i4 + 1, by omega, by go_num, HC5⟩, by simp [intOf]; omega⟩
                    · have hi5 : i4 = ns := by omega
                      obtain ⟨w4, hw4⟩ : ∃ w4, w4 = wr := ⟨_, rfl⟩
                      rw [← hw4] at HC4 HB2r ⊢
                      clear hw4
                      have HBw4 : Hid (Below w.heap.size w w4) := HBw.out.trans (HB2r.out.mono HBw.out.size)
                      have HM4 : Hid (∃ m, Mp 3 w4 W7.heap.size (cntF F.steps) m) := by
                        obtain ⟨m, _, h9⟩ := HC4.out.2.2
                        rw [hi5, HNt.out.2, List.take_length] at h9
                        exact ⟨m, h9⟩
                      have HK4 : Hid (w4.heap[w2.heap.size]? = some (.cells #[.string y, .int .i64 pa, .slice qt i3 ct, .slice (some ⟨gs0, ps0, none⟩) ns cs] 57)) := by
                        show _ = _
                        rw [HC4.out.1.block _ (by have := HK7.out.2; omega)]
                        exact HK7.out.1
                      subst hi5
                      have n3 := cell_at (i := 3) HK4.out rfl
                      go_wp2_with fail
                      go_loopw [145] (fun v wr => ∃ i5 : Nat, i5 ≤ i4 ∧ v = .int .i64 i5 ∧ Hid (Below w4.heap.size w4 wr) ∧ Hid ((F.steps.take i5).all (stepB (fsL L) F) = true ∧ ∀ s ∈ F.steps.take i5, s.code = 6 → cntL F.steps s.label ≤ 1)) (fun v _ => i4 - (intOf v).toNat)
                      case atStart => exact ⟨0, Nat.zero_le _, rfl, Below.refl _ _, ⟨by simp, by simp⟩⟩
                      case round =>
                        obtain ⟨i5, hi5, rfl, HB5, HA5⟩ := hrel
                        have HB2r : Hid (Below w2.heap.size w2 wr) := HB2r.out.trans (HB5.out.mono HB2r.out.size)
                        have HBwr : Hid (Below w.heap.size w wr) := HBw4.out.trans (HB5.out.mono HBw4.out.size)
                        by_cases hlt6 : i5 < i4
                        · obtain ⟨s2, hs2⟩ : ∃ s, F.steps[i5]? = some s := ⟨F.steps[i5]'(by rw [← HNt.out.2]; exact hlt6), List.getElem?_eq_getElem _⟩
                          have hsts : ∀ j s, F.steps[j]? = some s → StepAt w2 gs0 (ps0 + j * 10) s := by
                            rcases HSp.out with h | ⟨g9, p9, e9, h⟩
                            · rw [h] at hs2; simp at hs2
                            · injection e9 with e9
                              injection e9 with e9 e9'
                              subst e9 e9'
                              exact h
                          have HSA : Hid (StepAt wr gs0 (ps0 + i5 * 10) s2) := (hsts i5 s2 hs2).below HB2r.out
                          have e0 := HSA.out.c0
                          have e1 := HSA.out.c1
                          have e2 := HSA.out.c2
                          have e3 := HSA.out.c3
                          have e4 := HSA.out.c4
                          have e5 := HSA.out.c5
                          have e6 := HSA.out.c6
                          have e7 := HSA.out.c7
                          have e8 := HSA.out.c8
                          obtain ⟨va, hva, hia⟩ := HSA.out.c9
                          obtain ⟨qa, ca, rfl, hia'⟩ := ints_form hia
                          have e9 := hva
                          obtain ⟨na, hna⟩ : ∃ na, na = s2.args.length := ⟨_, rfl⟩
                          rw [← hna] at e9 hia'
                          obtain ⟨y6, hy6⟩ : ∃ y6 : ByteArray, y6 = ⟨s2.op.toArray⟩ := ⟨_, rfl⟩
                          obtain ⟨y8, hy8⟩ : ∃ y8 : ByteArray, y8 = ⟨s2.name.toArray⟩ := ⟨_, rfl⟩
                          rw [← hy6] at e6
                          rw [← hy8] at e8
                          obtain ⟨cd, hcd⟩ : ∃ cd, s2.code = cd := ⟨_, rfl⟩
                          obtain ⟨lb, hlb⟩ : ∃ lb, s2.label = lb := ⟨_, rfl⟩
                          rw [hcd] at e0
                          rw [hlb] at e7
                          have HS2 : Hid (F.steps[i5]? = some s2 ∧ s2.code = cd ∧ s2.label = lb ∧ I64 lb) := ⟨hs2, hcd, hlb, by rw [← hlb]; exact HSA.out.i1.2.2.2.2.2.2⟩
                          have HSv : Hid (StV wr s2 y6 y8 qa na ca) := ⟨by rw [hy6], hy8, hia', hna, HSA.out.i1, HSA.out.i2⟩
                          obtain ⟨W9, hW9⟩ : ∃ W9, W9 = wr.alloc (.cells #[.int .i64 cd, .int .i64 s2.dst, .int .i64 s2.a, .int .i64 s2.b, .int .i64 s2.c, .int .i64 s2.n, .string y6, .int .i64 lb, .string y8, .slice qa na ca] 58) := ⟨_, rfl⟩
                          have HB9 : Hid (Below wr.heap.size wr W9) := by rw [hW9]; exact al_bel2 _ _
                          have HK9 : Hid (W9.heap[wr.heap.size]? = some (.cells #[.int .i64 cd, .int .i64 s2.dst, .int .i64 s2.a, .int .i64 s2.b, .int .i64 s2.c, .int .i64 s2.n, .string y6, .int .i64 lb, .string y8, .slice qa na ca] 58)) := by rw [hW9]; exact heap_alloc_last _ _
                          have hl7 : (i5 : Int) < (i4 : Int) := by omega
                          have HB49 : Hid (Below w4.heap.size w4 W9) := HB5.out.trans (HB9.out.mono HB5.out.size)
                          have HBw9 : Hid (Below w.heap.size w W9) := HBwr.out.trans (HB9.out.mono HBwr.out.size)
                          have HLc : Hid (LabC W9 W7.heap.size F.steps) := by
                            obtain ⟨m, h9⟩ := HM4.out
                            exact lab_c (h9.kept (HB49.out.block _ h9.lt))
                          obtain ⟨kc, hkc⟩ : ∃ kc, cntL F.steps lb = kc := ⟨_, rfl⟩
                          have lk := HLc.out.2 W9 rfl lb HS2.out.2.2.2
                          rw [hkc] at lk
                          have HKc : Hid (cntL F.steps lb = kc) := hkc
                          have hF9 : W9.heap[w2.heap.size]? = some (.cells #[.string y, .int .i64 pa, .slice qt i3 ct, .slice (some ⟨gs0, ps0, none⟩) i4 cs] 57) := by
                            have hz4 := (Array.getElem?_eq_some_iff.1 HK4.out).1
                            rw [HB49.out.block _ hz4]
                            exact HK4.out
                          have f0 := cell_at (i := 0) hF9 rfl
                          have f1 := cell_at (i := 1) hF9 rfl
                          have f2 := cell_at (i := 2) hF9 rfl
                          have f3 := cell_at (i := 3) hF9 rfl
                          have HRs : Hid (Calls Tryd.prog 26 #[.slice (some ⟨g, p, none⟩) i c, .map (some w.heap.size), .agg #[.string y, .int .i64 pa, .slice qt i3 ct, .slice (some ⟨gs0, ps0, none⟩) i4 cs], .agg #[.int .i64 cd, .int .i64 s2.dst, .int .i64 s2.a, .int .i64 s2.b, .int .i64 s2.c, .int .i64 s2.n, .string y6, .int .i64 lb, .string y8, .slice qa na ca], .map (some W7.heap.size)] W9 (LkP (stepB (fsL L) F s2) W9)) := by
                            have hB19 : Below w1.heap.size w1 W9 := HBr.out.trans ((HB2r.out.trans (HB9.out.mono HB2r.out.size)).mono HBr.out.size)
                            have h9 := rs_any W9 (fsL L) F s2 (some ⟨g, p, none⟩) i c w.heap.size W7.heap.size y pa qt ct (some ⟨gs0, ps0, none⟩) i4 cs y6 y8 qa na ca (HIt.out.below (HB2r.out.trans (HB9.out.mono HB2r.out.size))) ⟨HSv.out.op, HSv.out.name, HSv.out.args.below HB9.out, HSv.out.len, HSv.out.i1, HSv.out.i2⟩ HLc.out (HOf.out.below hB19) (by obtain ⟨m, hm⟩ := HMx.out; exact ⟨m, by rw [HBw9.out.cell (p := ⟨3, 0, none⟩) (cell_lt hm)]; exact hm⟩) (by omega)
                            rw [← HNt.out.1] at h9
                            have e1 : stA s2 y6 y8 qa na ca = #[.int .i64 cd, .int .i64 s2.dst, .int .i64 s2.a, .int .i64 s2.b, .int .i64 s2.c, .int .i64 s2.n, .string y6, .int .i64 lb, .string y8, .slice qa na ca] := by rw [← HS2.out.2.1, ← HS2.out.2.2.1]
                            rw [e1] at h9
                            exact h9
                          have HNo : Hid (∀ W, Below w.heap.size w W → stepB (fsL L) F s2 = false → G (.returned (.bool false)) W) := fun W hb hst => HFin.out W false hb (rv_6 HF.out.2 (by
                            unfold rightB
                            rw [all_bad2 HS2.out.1 hst]
                            simp))
                          have HYes : Hid (∀ W, Below W9.heap.size W9 W → stepB (fsL L) F s2 = true → (cd = 6 → kc ≤ 1) → Below w4.heap.size w4 W ∧ (F.steps.take (i5 + 1)).all (stepB (fsL L) F) = true ∧ ∀ s ∈ F.steps.take (i5 + 1), s.code = 6 → cntL F.steps s.label ≤ 1) := fun W hb hst hk => by
                            refine ⟨HB49.out.trans (hb.mono HB49.out.size), ?_, ?_⟩
                            · rw [take_snoc HS2.out.1, List.all_append, HA5.out.1]; simp [hst]
                            · intro s hs h6
                              rw [take_snoc HS2.out.1, List.mem_append] at hs
                              rcases hs with hs | hs
                              · exact HA5.out.2 s hs h6
                              · simp at hs
                                subst hs
                                rw [HS2.out.2.2.1, HKc.out]
                                exact hk (by rw [← HS2.out.2.1]; exact h6)
                          have s0' := cell_at (i := 0) HK9.out rfl
                          rw [hW9] at lk f0 f1 f2 f3 s0'
                          clear hs2 hsts hva hia hia' hna hy6 hy8 hcd hlb hkc hF9
                          by_cases hk1 : 1 < kc
                          · by_cases h6 : cd = 6
                            · have HX : Hid (G (.returned (.bool false)) W9) := HFin.out W9 false HBw9.out (rv_6 HF.out.2 (rb_3 (fun hok => by
                                have := labs_cnt.1 hok lb
                                rw [HKc.out] at this
                                omega)))
                              subst h6
                              have u1 : decide ((1 : Int) < (kc : Int)) = true := decide_eq_true (by omega)
                              have u2 : decide (1 < kc) = true := decide_eq_true hk1
                              rw [hW9] at HX
                              clear hk1 hW9
                              go_wp2
                              exact HX.out
                            · have u1 : decide ((1 : Int) < (kc : Int)) = true := decide_eq_true (by omega)
                              have u2 : decide (1 < kc) = true := decide_eq_true hk1
                              have u6 : (cd == 6) = false := by simpa using h6
                              have HKk : Hid (cd = 6 → kc ≤ 1) := fun e => absurd e h6
                              clear hk1 h6
                              go_wp2_with (go_at_call 26; fail)
                              rw [← hW9]
                              clear hW9 lk f0 f1 f2 f3 s0'
                              refine HRs.out.mono ?_
                              rintro e w9 ⟨rfl, hb9⟩
                              cases hst : stepB (fsL L) F s2 with
                              | true =>
                                obtain ⟨z1, z2⟩ := HYes.out w9 hb9 hst HKk.out
                                have HZ1 : Hid (Below w4.heap.size w4 w9) := z1
                                have HZ2 : Hid ((F.steps.take (i5 + 1)).all (stepB (fsL L) F) = true ∧ ∀ s ∈ F.steps.take (i5 + 1), s.code = 6 → cntL F.steps s.label ≤ 1) := z2
                                clear z1 z2 hb9 hst
                                go_wp2
                                exact ⟨⟨i5 + 1, by omega, by go_num, HZ1, HZ2⟩, by simp [intOf]; omega⟩
                              | false =>
                                have HX : Hid (G (.returned (.bool false)) w9) := HNo.out w9 (HBw9.out.trans (hb9.mono HBw9.out.size)) hst
                                clear hb9 hst
                                go_wp2
                                exact HX.out
                          · have u1 : decide ((1 : Int) < (kc : Int)) = false := decide_eq_false (by omega)
                            have u2 : decide (1 < kc) = false := decide_eq_false hk1
                            have HKk : Hid (cd = 6 → kc ≤ 1) := fun _ => by omega
                            clear hk1
                            go_wp2_with (go_at_call 26; fail)
                            rw [← hW9]
                            clear hW9 lk f0 f1 f2 f3 s0'
                            refine HRs.out.mono ?_
                            rintro e w9 ⟨rfl, hb9⟩
                            cases hst : stepB (fsL L) F s2 with
                            | true =>
                              obtain ⟨z1, z2⟩ := HYes.out w9 hb9 hst HKk.out
                              have HZ1 : Hid (Below w4.heap.size w4 w9) := z1
                              have HZ2 : Hid ((F.steps.take (i5 + 1)).all (stepB (fsL L) F) = true ∧ ∀ s ∈ F.steps.take (i5 + 1), s.code = 6 → cntL F.steps s.label ≤ 1) := z2
                              clear z1 z2 hb9 hst
                              go_wp2
                              exact ⟨⟨i5 + 1, by omega, by go_num, HZ1, HZ2⟩, by simp [intOf]; omega⟩
                            | false =>
                              have HX : Hid (G (.returned (.bool false)) w9) := HNo.out w9 (HBw9.out.trans (hb9.mono HBw9.out.size)) hst
                              clear hb9 hst
                              go_wp2
                              exact HX.out
                        · have hi6 : i5 = i4 := by omega
                          have HA6 : Hid ((L.take (i2 + 1)).all placesB = true ∧ (L.take (i2 + 1)).all (rightB (fsL L)) = true) := by
                            have h9 := HA5.out
                            rw [hi6, HNt.out.2, List.take_length] at h9
                            have hrb : rightB (fsL L) F = true := by rw [rb_4 HR6.out.1 HL2.out (cnt_one h9.2), h9.1]
                            refine ⟨?_, ?_⟩
                            · rw [take_snoc HF.out.1, List.all_append, HAll.out.1]; simp [HPl.out]
                            · rw [take_snoc HF.out.1, List.all_append, HAll.out.2]; simp [hrb]
                          have HB6 : Hid (Below w1.heap.size w1 wr) := HBr.out.trans (HB2r.out.mono HBr.out.size)
                          subst hi6
                          go_wp2
                          exact ⟨⟨i2 + 1, by omega, by go_num, HB6, HA6⟩, by simp [intOf]; omega⟩
        · have hin3 : i2 = i := by omega
          have HX : Hid (G (.returned (.bool true)) w2) := HFin.out w2 true HBw.out (by
            have h9 := HAll.out
            rw [hin3, List.take_of_length_le (by rw [HN.out]; exact Nat.le_refl _)] at h9
            rw [rv_5 H12.out HNd.out HMok.out h9.1, h9.2])
          subst hin3
          go_wp2
          exact HX.out
end Go.Proofs.YtjmbjpimabnohaaDoor.Mid
