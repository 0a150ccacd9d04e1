/- NK -/
import Derived.Test.YtnfhpdbbfejioaaGreatDoorE35
namespace Go.Proofs.YtnfhpdbbfejioaaGreatDoor.Mid
set_option linter.unusedVariables false
set_option linter.unusedSimpArgs false
set_option maxRecDepth 100000
set_option maxHeartbeats 16000000
open Go Go.RowKit
theorem Fz.setE {P ob : Nat} {w w1 : World} {r r1 : Rs} (h : Fz P (fun b => b = ob) w r w1 r1) {i : Nat} {v : Value} : Fz P (fun b => b = ob) w r (w1.setCell ⟨ob, i, none⟩ v) r1 :=
  ⟨h.os, h.tape, h.output, by simp; exact h.size, fun b hb hx he => by rw [heap_setCell_other _ _ _ _ he]; exact h.blk b hb hx he, h.pre, h.new⟩
theorem call_step {X : Mx} (hX : MxOk X) (hF : FnsOk X) {g : Nat} (hC : ∀ g', g' < g → CallC X g') : CallC X g := by
  intro F fb fo mb hR w r d ob o hs ho hl hob hne
  have c4 : (w.alloc (.cells #[.pointer (some ⟨fb, fo, none⟩), .map (some mb)] 120)).cell? ⟨X.P, 4, none⟩ = some (.int .i64 (d : Int)) := zk (z_ (i := 4) hs.pb rfl)
  have f4 := zb (by rw [zc hs.ltP]; exact hs.pb : (w.alloc (.cells #[.pointer (some ⟨fb, fo, none⟩), .map (some mb)] 120)).heap[X.P]? = _) 4
  have hd := hs.deep
  have HS : Hid (Sm X.w0 X.P X.fv w r d) := hs
  have HX : Hid (MxOk X) := hX
  have HFn : Hid (FnsOk X) := hF
  have HC : Hid (∀ g', g' < g → CallC X g') := hC
  have HR : Hid (Rout X F fb fo mb) := hR
  have HO : Hid (OwM w ob r.ab o ∧ o.length = F.types.length ∧ X.w0.heap.size ≤ ob) := ⟨ho, hl, hob⟩
  obtain ⟨kl, hkl⟩ : ∃ kl, o.length = kl := ⟨_, rfl⟩
  have HK : Hid (o.length = kl ∧ F.types.length = kl ∧ kl ≤ 1000000) := ⟨hkl, by omega, by have := hR.fn.i2.2.1; omega⟩
  generalize hG : ClP X w r d ob (qx X.fs g d F o r.s) = G
  have HG : Hid (ClP X w r d ob (qx X.fs g d F o r.s) = G) := hG
  rw [hkl]
  have hkm : kl ≤ 1000000 := HK.out.2.2
  by_cases h40 : 40 ≤ d
  · have HE : Hid (qx X.fs g d F o r.s = .error (5, r.s.out)) := by unfold qx; rw [if_pos h40]; rfl
    have hS1 : Hid (Sm X.w0 X.P X.fv (w.alloc (.cells #[.pointer (some ⟨fb, fo, none⟩), .map (some mb)] 120)) r d ∧ Fz X.P (fun b => b = ob) w r (w.alloc (.cells #[.pointer (some ⟨fb, fo, none⟩), .map (some mb)] 120)) r) := ⟨hs.below (zt _ _), Fz.below (zt _ _)⟩
    clear hs hX hF hC hR ho hl hob hne hkl hG
    go_enter Tryz.func50, Tryz.ntmps50
    go_wp2_with (go_at_call 78; refine (zU _ _).mono ?_; rintro e w' ⟨rfl, rfl⟩)
    refine ⟨rfl, ?_⟩
    rw [← HG.out, HE.out]
    exact ⟨r, d, hS1.out.1, hS1.out.2, .inr ⟨5, rfl, rfl⟩⟩
  · have HE : Hid (qx X.fs g d F o r.s = goN X.fs g (d + 1) F 0 o r.s) := by show (if 40 ≤ d then gt 5 else goN X.fs g (d + 1) F 0 o) r.s = _; exact congrFun (if_neg h40) _
    have HNe : Hid (∀ out, goN X.fs g (d + 1) F 0 o r.s ≠ .error (99, out)) := fun out => by rw [← HE.out]; exact hne out
    have hb1 := zt w (.cells #[.pointer (some ⟨fb, fo, none⟩), .map (some mb)] 120)
    obtain ⟨a1, a2⟩ := (hs.below hb1).setP (i := 4) (v := .int .i64 ((d : Int) + 1)) r (d + 1) (by simp) rfl rfl rfl rfl hs.inp hs.few (by omega)
    obtain ⟨W1, hW1⟩ : ∃ W1, W1 = (w.alloc (.cells #[.pointer (some ⟨fb, fo, none⟩), .map (some mb)] 120)).setCell ⟨X.P, 4, none⟩ (.int .i64 ((d : Int) + 1)) := ⟨_, rfl⟩
    have HLp : Hid (LpI X fb fo mb F w r d ob g o W1 0) := by
      rw [hW1]
      have hf1 : Fz X.P NoE w r ((w.alloc (.cells #[.pointer (some ⟨fb, fo, none⟩), .map (some mb)] 120)).setCell ⟨X.P, 4, none⟩ (.int .i64 ((d : Int) + 1))) r := (Fz.below hb1).trans a2
      refine ⟨⟨g, r, o, a1, hf1.no, ?_, hl, Nat.le_refl _, ?_, rfl⟩, ?_⟩
      · refine ho.mono (hf1.blk ob ho.lt (ho.notX hs) (fun e => e)) List.prefix_rfl
      · obtain ⟨t, h1, _⟩ := hR.last
        have := (List.getElem?_eq_some_iff.1 h1).1
        omega
      · rw [heap_setCell_other _ _ _ _ (by have := hs.ltP; show w.heap.size ≠ X.P; omega)]
        exact heap_alloc_last _ _
    have HOb : Hid (w.heap.size ≠ ob) := by have := ho.lt; show _ ≠ _; omega
    clear hs hX hF hC hR ho hl hob hne hkl hG a1 a2 hb1
    go_enter Tryz.func50, Tryz.ntmps50
    go_wp2_with (go_at_call 78; fail)
    rw [← hW1]
    clear hW1 c4 f4
    go_loopw [7] (fun v wr => ∃ k : Nat, v = .int .i64 k ∧ Hid (LpI X fb fo mb F w r d ob g o wr k)) (fun _ wr => fuelW X.P wr)
    case atStart => exact ⟨0, rfl, HLp⟩
    case round =>
      obtain ⟨k, rfl, HL⟩ := hrel
      obtain ⟨⟨g', r', o', q1, q2, q3, q4, q5, q6, q7⟩, q8⟩ := HL.out
      obtain ⟨g2, rfl⟩ := gas_pos (X := X) (g' := g') (fun out => by rw [← q7]; exact HNe.out out)
      obtain ⟨s, hst⟩ : ∃ s, F.steps[k]? = some s := ⟨F.steps[k], List.getElem?_eq_getElem q6⟩
      rw [goN_s hst] at q7
      have HQ : Hid (Sm X.w0 X.P X.fv wr r' (d + 1) ∧ Fz X.P (fun b => b = ob) w r wr r' ∧ OwM wr ob r'.ab o' ∧ o'.length = F.types.length ∧ g2 + 1 ≤ g ∧ k < F.steps.length ∧ wr.heap[w.heap.size]? = some (.cells #[.pointer (some ⟨fb, fo, none⟩), .map (some mb)] 120)) := ⟨q1, q2, q3, q4, q5, q6, q8⟩
      have HE7 : Hid (goN X.fs g (d + 1) F 0 o r.s = (gb pay fun _ => stepG X.fs g2 (d + 1) F k o' s) r'.s) := q7
      have HSt : Hid (F.steps[k]? = some s) := hst
      clear q1 q2 q3 q4 q5 q6 q7 q8 hst
      go_wp2_with (go_at_call 79; fail)
      refine (pay_any X.toCx wr r' (d + 1) HQ.out.1).mono ?_
      rintro e w1 (⟨h0, rfl, rfl⟩ | ⟨h0, rfl, h1, hf⟩)
      · refine ⟨rfl, ?_⟩
        rw [← HG.out, HE.out, HE7.out, gb_e (pay_no h0)]
        exact ⟨r', d + 1, HQ.out.1, HQ.out.2.1, .inr ⟨6, rfl, rfl⟩⟩
      have HE8 : Hid (goN X.fs g (d + 1) F 0 o r.s = stepG X.fs g2 (d + 1) F k o' s r'.fuel1.s) := by rw [HE7.out, gb_o (pay_yes h0)]; rfl
      have hb1 : w1.heap[w.heap.size]? = some (.cells #[.pointer (some ⟨fb, fo, none⟩), .map (some mb)] 120) := box_on HQ.out.2.2.2.2.2.2 HQ.out.1 HOb.out hf.no
      have ho1 : OwM w1 ob r'.fuel1.ab o' := HQ.out.2.2.1.mono (hf.blk ob HQ.out.2.2.1.lt (HQ.out.2.2.1.notX HQ.out.1) (fun e => e)) hf.pre
      have HP1 : Hid (Sm X.w0 X.P X.fv w1 r'.fuel1 (d + 1) ∧ Fz X.P (fun b => b = ob) w r w1 r'.fuel1 ∧ OwM w1 ob r'.fuel1.ab o' ∧ w1.heap[w.heap.size]? = some (.cells #[.pointer (some ⟨fb, fo, none⟩), .map (some mb)] 120)) := ⟨h1, HQ.out.2.1.trans hf.no, ho1, hb1⟩
      obtain ⟨r1, hr1⟩ : ∃ r1, r'.fuel1 = r1 := ⟨_, rfl⟩
      have HMe : Hid (r1.s.fuel < r'.s.fuel ∧ fuelW X.P wr = r'.s.fuel.toNat ∧ 0 < r'.s.fuel) := ⟨by rw [← hr1]; show r'.s.fuel - 1 < r'.s.fuel; omega, fuelW_is HQ.out.1, by omega⟩
      rw [hr1] at HP1 HE8
      have d0 := z_ (i := 0) hb1 rfl
      have d1 := z_ (i := 1) hb1 rfl
      obtain ⟨qs, cs, hs3, hsc, hss⟩ := HR.out.fn.c3
      obtain ⟨gs, ps, rfl, hsts⟩ : ∃ g p, qs = some ⟨g, p, none⟩ ∧ ∀ j s, F.steps[j]? = some s → StepAt X.wc g (p + j * 10) s := by
        rcases hss with h | h
        · have := HSt.out; rw [h] at this; simp at this
        · exact h
      have HSA : Hid (StepAt X.wc gs (ps + k * 10) s) := hsts k s HSt.out
      obtain ⟨ns, hns⟩ : ∃ ns, F.steps.length = ns := ⟨_, rfl⟩
      have hkn : k < ns := by have := HQ.out.2.2.2.2.2.1; omega
      have hnm : ns ≤ 1000000 := by have := HR.out.fn.i2.2.2; omega
      have e3 := HX.out.cell HP1.out.1 hs3
      rw [hns] at e3 hsc
      have s0 := HX.out.cell HP1.out.1 HSA.out.c0
      have HOk : Hid (StOk X.fs F s) := HR.out.ok s (List.mem_of_getElem? HSt.out)
      have HKl : Hid (o'.length = kl) := by have := HQ.out.2.2.2.1; have := HK.out; show _ = _; omega
      clear h0 h1 hf hb1 ho1 hr1 hs3 hss hsts hns
      have HNx : Hid (∀ w2 r2 o2 k2 g3, Sm X.w0 X.P X.fv w2 r2 (d + 1) → Fz X.P (fun b => b = ob) w1 r1 w2 r2 → OwM w2 ob r2.ab o2 → o2.length = F.types.length → k2 < F.steps.length → g3 ≤ g → goN X.fs g (d + 1) F 0 o r.s = goN X.fs g3 (d + 1) F k2 o2 r2.s → r2.s.fuel ≤ r1.s.fuel → LpI X fb fo mb F w r d ob g o w2 k2 ∧ fuelW X.P w2 < fuelW X.P wr) := by
        intro w2 r2 o2 k2 g3 h1 h2 h3 h4 h5 h6 h7 h8
        refine ⟨⟨⟨g3, r2, o2, h1, HP1.out.2.1.trans h2, h3, h4, h6, h5, h7⟩, box_on HP1.out.2.2.2 HP1.out.1 HOb.out h2⟩, ?_⟩
        have := HMe.out
        rw [fuelW_is h1, this.2.1]
        omega
      have HG2 : Hid (g2 ≤ g ∧ g2 < g) := by have := HQ.out.2.2.2.2.1; exact ⟨by omega, by omega⟩
      have hcode := HOk.out.code
      have HBl : Hid (∀ W, Below w1.heap.size w1 W → Sm X.w0 X.P X.fv W r1 (d + 1) ∧ Fz X.P (fun b => b = ob) w1 r1 W r1 ∧ OwM W ob r1.ab o') := fun W hb => ⟨HP1.out.1.below hb, Fz.below hb, HP1.out.2.2.1.mono (hb.block ob HP1.out.2.2.1.lt) List.prefix_rfl⟩
      have HNy : Hid (∀ W k2, Below w1.heap.size w1 W → k2 < F.steps.length → goN X.fs g (d + 1) F 0 o r.s = goN X.fs g2 (d + 1) F k2 o' r1.s → LpI X fb fo mb F w r d ob g o W k2 ∧ fuelW X.P W < fuelW X.P wr) := fun W k2 hb h1 h2 => by
        obtain ⟨b1, b2, b3⟩ := HBl.out W hb
        exact HNx.out W r1 o' k2 g2 b1 b2 b3 HQ.out.2.2.2.1 h1 HG2.out.1 h2 (Int.le_refl _)
      by_cases h8 : s.code = 8
      · have HE9 : Hid (goN X.fs g (d + 1) F 0 o r.s = .ok ((pl o' s.a).1, r1.s)) := by rw [HE8.out, sg_8 h8]; rfl
        obtain ⟨ha0, ha1⟩ := HOk.out.a (by omega)
        rw [h8] at s0
        have c4 : w1.cell? ⟨X.P, 4, none⟩ = some (.int .i64 ((d : Int) + 1)) := by have := z_ (i := 4) HP1.out.1.pb rfl; simpa using this
        have f4 := zb HP1.out.1.pb 4
        obtain ⟨z1, z2⟩ := HP1.out.1.setP (i := 4) (v := .int .i64 (d : Int)) r1 d (by simp) rfl rfl rfl rfl HP1.out.1.inp HP1.out.1.few (by omega)
        have HZ : Hid (Sm X.w0 X.P X.fv (w1.setCell ⟨X.P, 4, none⟩ (.int .i64 (d : Int))) r1 d ∧ Fz X.P NoE w1 r1 (w1.setCell ⟨X.P, 4, none⟩ (.int .i64 (d : Int))) r1) := ⟨z1, z2⟩
        have s2 := HX.out.cell z1 HSA.out.c2
        have ho2 : OwM (w1.setCell ⟨X.P, 4, none⟩ (.int .i64 (d : Int))) ob r1.ab o' := HP1.out.2.2.1.mono (z2.blk ob HP1.out.2.2.1.lt (HP1.out.2.2.1.notX HP1.out.1) (fun e => e)) List.prefix_rfl
        obtain ⟨qv, u1, -, -⟩ := ho2.get ha0 (by rw [HQ.out.2.2.2.1]; exact ha1)
        obtain ⟨ia, hia⟩ : ∃ ia : Nat, s.a = ia := ⟨s.a.toNat, by omega⟩
        obtain ⟨nv, hnv⟩ : ∃ nv, (pl o' s.a).1 = nv := ⟨_, rfl⟩
        rw [hnv] at u1 HE9
        rw [hia] at s2 u1
        rw [Int.toNat_natCast] at u1
        have hlt : ia < kl := by have := HK.out; omega
        clear z1 z2 ho2 hia hnv ha0 ha1 h8 hcode
        go_wp2
        rw [← HG.out, HE.out, HE9.out]
        exact ⟨r1, d, HZ.out.1, HP1.out.2.1.trans HZ.out.2.no, .inl ⟨nv, rfl, rfl, rfl⟩⟩
      by_cases h4 : s.code = 4
      · obtain ⟨j, hj⟩ := HOk.out.goes (.inl h4)
        have HE9 : Hid (goN X.fs g (d + 1) F 0 o r.s = goN X.fs g2 (d + 1) F (j + 1) o' r1.s) := by rw [HE8.out, sg_4 h4, hj]; rfl
        have HJ : Hid (j + 1 < F.steps.length) := lab_lt HR.out hj
        have hj2 : j < 1000000 := by have := HJ.out; have := HR.out.fn.i2.2.2; omega
        rw [h4] at s0
        have s7 := HX.out.cell HP1.out.1 HSA.out.c7
        have lk := HR.out.lab w1.drew (fun b hb => HX.out.all HP1.out.1 b hb) s.label HSA.out.i1.2.2.2.2.2.2
        rw [hj] at lk
        have lk' : (Instr.lookup 118 (.map (some mb)) (.int .i64 s.label) false).run Tryz.prog w1.drew = .ok (.int .i64 (j : Int)) w1.drew := lk
        clear lk hj h4 h8 hcode
        go_wp2_with fail
        go_region
        go_wp2
        obtain ⟨l1, l2⟩ := HNy.out w1.drew (j + 1) (Below.refl _ _).drew HJ.out HE9.out
        exact ⟨⟨j + 1, by simp, l1⟩, l2⟩
      have HK1 : Hid (k + 1 < F.steps.length) := next_lt HR.out HSt.out h8 h4
      have hk1 : k + 1 < 1000000 := by have := HK1.out; have := HR.out.fn.i2.2.2; omega
      by_cases h6 : s.code = 6
      · have HE9 : Hid (goN X.fs g (d + 1) F 0 o r.s = goN X.fs g2 (d + 1) F (k + 1) o' r1.s) := by rw [HE8.out, sg_6 h6]; rfl
        rw [h6] at s0
        clear h8 h4 h6 hcode
        go_wp2
        obtain ⟨l1, l2⟩ := HNy.out w1 (k + 1) (Below.refl _ _) HK1.out HE9.out
        exact ⟨⟨k + 1, by simp, l1⟩, l2⟩
      by_cases h5 : s.code = 5
      · obtain ⟨j, hj⟩ := HOk.out.goes (.inr h5)
        have HJ : Hid (j + 1 < F.steps.length) := lab_lt HR.out hj
        have hj2 : j < 1000000 := by have := HJ.out; have := HR.out.fn.i2.2.2; omega
        obtain ⟨ha0, ha1⟩ := HOk.out.a (by omega)
        have s2 := HX.out.cell HP1.out.1 HSA.out.c2
        obtain ⟨qv, u1, -, -⟩ := HP1.out.2.2.1.get ha0 (by rw [HQ.out.2.2.2.1]; exact ha1)
        obtain ⟨ia, hia⟩ : ∃ ia : Nat, s.a = ia := ⟨s.a.toNat, by omega⟩
        obtain ⟨nv, hnv⟩ : ∃ nv, (pl o' s.a).1 = nv := ⟨_, rfl⟩
        rw [hnv] at u1
        rw [hia] at s2 u1
        rw [Int.toNat_natCast] at u1
        have hlt : ia < kl := by have := HK.out; omega
        rw [h5] at s0
        have s7 := HX.out.cell HP1.out.1 HSA.out.c7
        have lk := HR.out.lab w1.drew (fun b hb => HX.out.all HP1.out.1 b hb) s.label HSA.out.i1.2.2.2.2.2.2
        rw [hj] at lk
        have lk' : (Instr.lookup 118 (.map (some mb)) (.int .i64 s.label) false).run Tryz.prog w1.drew = .ok (.int .i64 (j : Int)) w1.drew := lk
        by_cases hz : nv = 0
        · have HE9 : Hid (goN X.fs g (d + 1) F 0 o r.s = goN X.fs g2 (d + 1) F (j + 1) o' r1.s) := by rw [HE8.out, sg_5 h5, hj, hnv, if_pos hz]; rfl
          have hz1 : (nv == 0) = true := by simpa using hz
          clear lk hj h4 h8 h6 h5 hcode hia hnv ha0 ha1 hz
          go_wp2_with fail
          go_region
          go_wp2
          obtain ⟨l1, l2⟩ := HNy.out w1.drew (j + 1) (Below.refl _ _).drew HJ.out HE9.out
          exact ⟨⟨j + 1, by simp, l1⟩, l2⟩
        · have HE9 : Hid (goN X.fs g (d + 1) F 0 o r.s = goN X.fs g2 (d + 1) F (k + 1) o' r1.s) := by rw [HE8.out, sg_5 h5, hnv, if_neg hz]; rfl
          have hz1 : (nv == 0) = false := by simpa using hz
          clear lk hj h4 h8 h6 h5 hcode hia hnv ha0 ha1 hz lk'
          go_wp2
          obtain ⟨l1, l2⟩ := HNy.out w1 (k + 1) (Below.refl _ _) HK1.out HE9.out
          exact ⟨⟨k + 1, by simp, l1⟩, l2⟩
      by_cases h13 : s.code = 13
      · obtain ⟨ha0, ha1⟩ := HOk.out.a (by omega)
        have s2 := HX.out.cell HP1.out.1 HSA.out.c2
        obtain ⟨qv, u1, -, -⟩ := HP1.out.2.2.1.get ha0 (by rw [HQ.out.2.2.2.1]; exact ha1)
        obtain ⟨ia, hia⟩ : ∃ ia : Nat, s.a = ia := ⟨s.a.toNat, by omega⟩
        obtain ⟨nv, hnv⟩ : ∃ nv, (pl o' s.a).1 = nv := ⟨_, rfl⟩
        rw [hnv] at u1
        rw [hia] at s2 u1
        rw [Int.toNat_natCast] at u1
        have hlt : ia < kl := by have := HK.out; omega
        rw [h13] at s0
        have HE9 : Hid (goN X.fs g (d + 1) F 0 o r.s = (gb (tellG nv) fun _ => goN X.fs g2 (d + 1) F (k + 1) o') r1.s) := by rw [HE8.out, sg_13 h13, hnv]; rfl
        clear h4 h8 h6 h5 h13 hcode hia hnv ha0 ha1
        go_wp2_with (go_at_call 80; fail)
        refine (tell_any X.toCx w1 r1 (d + 1) nv HP1.out.1).mono ?_
        rintro e w2 (⟨t1, rfl, rfl⟩ | ⟨t1, rfl, ov, t2, t3⟩)
        · refine ⟨rfl, ?_⟩
          rw [← HG.out, HE.out, HE9.out, gb_e (tell_er t1)]
          exact ⟨r1, d + 1, HP1.out.1, HP1.out.2.1, .inr ⟨7, rfl, rfl⟩⟩
        · have HL2 : Hid (LpI X fb fo mb F w r d ob g o w2 (k + 1) ∧ fuelW X.P w2 < fuelW X.P wr) := HNx.out w2 (r1.tell1 ov nv) o' (k + 1) g2 t2 t3.no (HP1.out.2.2.1.mono (t3.blk ob HP1.out.2.2.1.lt (HP1.out.2.2.1.notX HP1.out.1) (fun e => e)) t3.pre) HQ.out.2.2.2.1 HK1.out HG2.out.1 (by rw [HE9.out, gb_o (tell_ok t1)]; rfl) (Int.le_refl _)
          clear t1 t2 t3
          go_wp2
          exact ⟨⟨k + 1, by simp, HL2.out.1⟩, HL2.out.2⟩
      by_cases h12 : s.code = 12
      · obtain ⟨ha0, ha1⟩ := HOk.out.a (by omega)
        obtain ⟨hb0, hb1⟩ := HOk.out.b (by omega)
        obtain ⟨hc0, hc1⟩ := HOk.out.c h12
        have s2 := HX.out.cell HP1.out.1 HSA.out.c2
        have s3 := HX.out.cell HP1.out.1 HSA.out.c3
        have s4 := HX.out.cell HP1.out.1 HSA.out.c4
        obtain ⟨qa, -, u2, u3⟩ := HP1.out.2.2.1.get ha0 (by rw [HQ.out.2.2.2.1]; exact ha1)
        obtain ⟨qb, v1, -, -⟩ := HP1.out.2.2.1.get hb0 (by rw [HQ.out.2.2.2.1]; exact hb1)
        obtain ⟨qc, x1, -, -⟩ := HP1.out.2.2.1.get hc0 (by rw [HQ.out.2.2.2.1]; exact hc1)
        obtain ⟨p5, l5, c5, rfl⟩ := qv_slice u3
        obtain ⟨ia, hia⟩ : ∃ ia : Nat, s.a = ia := ⟨s.a.toNat, by omega⟩
        obtain ⟨ib, hib⟩ : ∃ ib : Nat, s.b = ib := ⟨s.b.toNat, by omega⟩
        obtain ⟨ic, hic⟩ : ∃ ic : Nat, s.c = ic := ⟨s.c.toNat, by omega⟩
        obtain ⟨nb, hnb⟩ : ∃ nb, (pl o' s.b).1 = nb := ⟨_, rfl⟩
        obtain ⟨nc, hnc⟩ : ∃ nc, (pl o' s.c).1 = nc := ⟨_, rfl⟩
        obtain ⟨xa, hxa⟩ : ∃ xa, (pl o' s.a).2 = xa := ⟨_, rfl⟩
        rw [hxa] at u3
        rw [hnb] at v1
        rw [hnc] at x1
        rw [hia] at s2 u2
        rw [hib] at s3 v1
        rw [hic] at s4 x1
        rw [Int.toNat_natCast] at u2 v1 x1
        have hlta : ia < kl := by have := HK.out; omega
        have hltb : ib < kl := by have := HK.out; omega
        have hltc : ic < kl := by have := HK.out; omega
        rw [h12] at s0
        have HE9 : Hid (goN X.fs g (d + 1) F 0 o r.s = (gb (putG xa nb nc) fun _ => goN X.fs g2 (d + 1) F (k + 1) o') r1.s) := by rw [HE8.out, sg_12 h12, hxa, hnb, hnc]; rfl
        have hit := item_q HP1.out.1 u3 nb
        have HEnd : Hid (∀ W, Below w1.heap.size w1 W → (nb < 0 ∨ ((zS r1.s xa).length : Int) ≤ nb) → G (endE 3) W) := fun W hb h1 => by
          rw [← HG.out, HE.out, HE9.out, gb_e (put_er h1)]
          obtain ⟨b1, b2, b3⟩ := HBl.out W hb
          exact ⟨r1, d + 1, b1, HP1.out.2.1.trans b2, .inr ⟨3, rfl, rfl⟩⟩
        have HFi : Hid (∀ W bb im, Below w1.heap.size w1 W → (¬ (nb < 0 ∨ ((zS r1.s xa).length : Int) ≤ nb) ∧ ∃ n j, xa = some j ∧ r1.ab[j]? = some (bb, n) ∧ im = nb.toNat) → LpI X fb fo mb F w r d ob g o (W.setCell ⟨bb, im, none⟩ (.int .i64 nc)) (k + 1) ∧ fuelW X.P (W.setCell ⟨bb, im, none⟩ (.int .i64 nc)) < fuelW X.P wr) := by
          rintro W bb im hb ⟨h1, n, j, rfl, h3, rfl⟩
          obtain ⟨b1, b2, b3⟩ := HBl.out W hb
          obtain ⟨z1, z2⟩ := b1.putA (j := nb.toNat) (n := nc) h3
          refine HNx.out _ (r1.put1 j nb.toNat nc) o' (k + 1) g2 z1 (b2.trans z2.no) (b3.mono (z2.blk ob b3.lt (b3.notX b1) (fun e => e)) z2.pre) HQ.out.2.2.2.1 HK1.out HG2.out.1 ?_ (Int.le_refl _)
          rw [HE9.out, gb_o (put_ok h1)]
          rfl
        clear h4 h8 h6 h5 h13 h12 hcode hia hib hic hnb hnc hxa ha0 ha1 hb0 hb1 hc0 hc1 u3
        rcases hit with ⟨h1, hC⟩ | ⟨bb, n, j, i1, i2, h1, h2, h3, h4, h5, h6, hC⟩
        · have HCi : Hid (∀ W, Calls Tryz.prog 81 #[.slice p5 l5 c5, .int .i64 nb] W fun e w' => e = endE 3 ∧ w' = W) := hC
          have HG3 : Hid (∀ W, Below w1.heap.size w1 W → G (endE 3) W) := fun W hb => HEnd.out W hb h1
          clear hC h1
          go_wp2_with fail
          refine wp_region_held_drew (S := (fun w' => w'.cell? ⟨gs, ps + k * 10 + 2, none⟩ = some (.int .i64 (ia : Int)) ∧ w'.cell? ⟨gs, ps + k * 10 + 3, none⟩ = some (.int .i64 (ib : Int)) ∧ w'.cell? ⟨gs, ps + k * 10 + 4, none⟩ = some (.int .i64 (ic : Int)) ∧ w'.cell? ⟨ob, ia * 2 + 1, none⟩ = some (.slice p5 l5 c5) ∧ w'.cell? ⟨ob, ib * 2, none⟩ = some (.int .i64 nb) ∧ w'.cell? ⟨ob, ic * 2, none⟩ = some (.int .i64 nc))) (by kernel_rfl) ?_ (fun hHeld => ?_)
          · exact ⟨s2, s3, s4, u2, v1, x1⟩
          refine wpAnyH_take (i := 0) (v := ?val0) rfl (by kernel_rfl) (by kernel_rfl) (by kernel_rfl) (fun _ _ _ h => h) (Or.inl ⟨by rfl, ?hy0⟩) hHeld ?go0
          case hy0 => (intro w hSw; (try dsimp only at hSw); (try (obtain ⟨z1, z2, z3, z4, z5, z6⟩ := hSw)); go_simp; try rfl)
          case go0 =>
          simp only [Act.put, List.setIfInBounds_toArray, List.set_cons_zero, List.set_cons_succ, List.getElem_toArray, List.getElem_cons_zero, List.getElem_cons_succ]
          refine wpAnyH_take (i := 1) (v := ?val1) rfl (by kernel_rfl) (by kernel_rfl) (by kernel_rfl) (fun _ _ _ h => h) (Or.inl ⟨by rfl, ?hy1⟩) hHeld ?go1
          case hy1 => (intro w hSw; (try dsimp only at hSw); (try (obtain ⟨z1, z2, z3, z4, z5, z6⟩ := hSw)); go_simp; try rfl)
          case go1 =>
          simp only [Act.put, List.setIfInBounds_toArray, List.set_cons_zero, List.set_cons_succ, List.getElem_toArray, List.getElem_cons_zero, List.getElem_cons_succ]
          refine wpAnyH_take (i := 2) (v := ?val2) rfl (by kernel_rfl) (by kernel_rfl) (by kernel_rfl) (fun _ _ _ h => h) (Or.inl ⟨by rfl, ?hy2⟩) hHeld ?go2
          case hy2 => (intro w hSw; (try dsimp only at hSw); (try (obtain ⟨z1, z2, z3, z4, z5, z6⟩ := hSw)); go_simp; try rfl)
          case go2 =>
          simp only [Act.put, List.setIfInBounds_toArray, List.set_cons_zero, List.set_cons_succ, List.getElem_toArray, List.getElem_cons_zero, List.getElem_cons_succ]
          refine wpAnyH_take (i := 3) (v := ?val3) rfl (by kernel_rfl) (by kernel_rfl) (by kernel_rfl) (fun _ _ _ h => h) (Or.inl ⟨by rfl, ?hy3⟩) hHeld ?go3
          case hy3 => (intro w hSw; (try dsimp only at hSw); (try (obtain ⟨z1, z2, z3, z4, z5, z6⟩ := hSw)); go_simp; try rfl)
          case go3 =>
          simp only [Act.put, List.setIfInBounds_toArray, List.set_cons_zero, List.set_cons_succ, List.getElem_toArray, List.getElem_cons_zero, List.getElem_cons_succ]
          refine wpAnyH_take (i := 4) (v := ?val4) rfl (by kernel_rfl) (by kernel_rfl) (by kernel_rfl) (fun _ _ _ h => h) (Or.inl ⟨by rfl, ?hy4⟩) hHeld ?go4
          case hy4 => (intro w hSw; (try dsimp only at hSw); (try (obtain ⟨z1, z2, z3, z4, z5, z6⟩ := hSw)); go_simp; try rfl)
          case go4 =>
          simp only [Act.put, List.setIfInBounds_toArray, List.set_cons_zero, List.set_cons_succ, List.getElem_toArray, List.getElem_cons_zero, List.getElem_cons_succ]
          refine wpAnyH_take (i := 5) (v := ?val5) rfl (by kernel_rfl) (by kernel_rfl) (by kernel_rfl) (fun _ _ _ h => h) (Or.inl ⟨by rfl, ?hy5⟩) hHeld ?go5
          case hy5 => (intro w hSw; (try dsimp only at hSw); (try (obtain ⟨z1, z2, z3, z4, z5, z6⟩ := hSw)); go_simp; try rfl)
          case go5 =>
          simp only [Act.put, List.setIfInBounds_toArray, List.set_cons_zero, List.set_cons_succ, List.getElem_toArray, List.getElem_cons_zero, List.getElem_cons_succ]
          refine wpAnyH_take (i := 6) (v := ?val6) rfl (by kernel_rfl) (by kernel_rfl) (by kernel_rfl) (fun _ _ _ h => h) (Or.inl ⟨by rfl, ?hy6⟩) hHeld ?go6
          case hy6 => (intro w hSw; (try dsimp only at hSw); (try (obtain ⟨z1, z2, z3, z4, z5, z6⟩ := hSw)); go_simp; try rfl)
          case go6 =>
          simp only [Act.put, List.setIfInBounds_toArray, List.set_cons_zero, List.set_cons_succ, List.getElem_toArray, List.getElem_cons_zero, List.getElem_cons_succ]
          refine wpAnyH_take (i := 7) (v := ?val7) rfl (by kernel_rfl) (by kernel_rfl) (by kernel_rfl) (fun _ _ _ h => h) (Or.inl ⟨by rfl, ?hy7⟩) hHeld ?go7
          case hy7 => (intro w hSw; (try dsimp only at hSw); (try (obtain ⟨z1, z2, z3, z4, z5, z6⟩ := hSw)); go_simp; try rfl)
          case go7 =>
          simp only [Act.put, List.setIfInBounds_toArray, List.set_cons_zero, List.set_cons_succ, List.getElem_toArray, List.getElem_cons_zero, List.getElem_cons_succ]
          refine wpAnyH_take (i := 8) (v := ?val8) rfl (by kernel_rfl) (by kernel_rfl) (by kernel_rfl) (fun _ _ _ h => h) (Or.inl ⟨by rfl, ?hy8⟩) hHeld ?go8
          case hy8 => (intro w hSw; (try dsimp only at hSw); (try (obtain ⟨z1, z2, z3, z4, z5, z6⟩ := hSw)); go_simp; try rfl)
          case go8 =>
          simp only [Act.put, List.setIfInBounds_toArray, List.set_cons_zero, List.set_cons_succ, List.getElem_toArray, List.getElem_cons_zero, List.getElem_cons_succ]
          refine wpAnyH_take (i := 9) (v := ?val9) rfl (by kernel_rfl) (by kernel_rfl) (by kernel_rfl) (fun _ _ _ h => h) (Or.inl ⟨by rfl, ?hy9⟩) hHeld ?go9
          case hy9 => (intro w hSw; (try dsimp only at hSw); (try (obtain ⟨z1, z2, z3, z4, z5, z6⟩ := hSw)); go_simp; try rfl)
          case go9 =>
          simp only [Act.put, List.setIfInBounds_toArray, List.set_cons_zero, List.set_cons_succ, List.getElem_toArray, List.getElem_cons_zero, List.getElem_cons_succ]
          refine wpAnyH_take (i := 10) (v := ?val10) rfl (by kernel_rfl) (by kernel_rfl) (by kernel_rfl) (fun _ _ _ h => h) (Or.inl ⟨by rfl, ?hy10⟩) hHeld ?go10
          case hy10 => (intro w hSw; (try dsimp only at hSw); (try (obtain ⟨z1, z2, z3, z4, z5, z6⟩ := hSw)); go_simp; try rfl)
          case go10 =>
          simp only [Act.put, List.setIfInBounds_toArray, List.set_cons_zero, List.set_cons_succ, List.getElem_toArray, List.getElem_cons_zero, List.getElem_cons_succ]
          refine wpAnyH_take (i := 11) (v := ?val11) rfl (by kernel_rfl) (by kernel_rfl) (by kernel_rfl) (fun _ _ _ h => h) (Or.inl ⟨by rfl, ?hy11⟩) hHeld ?go11
          case hy11 => (intro w hSw; (try dsimp only at hSw); (try (obtain ⟨z1, z2, z3, z4, z5, z6⟩ := hSw)); go_simp; try rfl)
          case go11 =>
          simp only [Act.put, List.setIfInBounds_toArray, List.set_cons_zero, List.set_cons_succ, List.getElem_toArray, List.getElem_cons_zero, List.getElem_cons_succ]
          refine wpAnyH_take (i := 12) (v := ?val12) rfl (by kernel_rfl) (by kernel_rfl) (by kernel_rfl) (fun _ _ _ h => h) (Or.inl ⟨by rfl, ?hy12⟩) hHeld ?go12
          case hy12 => (intro w hSw; (try dsimp only at hSw); (try (obtain ⟨z1, z2, z3, z4, z5, z6⟩ := hSw)); go_simp; try rfl)
          case go12 =>
          simp only [Act.put, List.setIfInBounds_toArray, List.set_cons_zero, List.set_cons_succ, List.getElem_toArray, List.getElem_cons_zero, List.getElem_cons_succ]
          refine wpAnyH_take (i := 13) (v := ?val13) rfl (by kernel_rfl) (by kernel_rfl) (by kernel_rfl) (fun _ _ _ h => h) (Or.inl ⟨by rfl, ?hy13⟩) hHeld ?go13
          case hy13 => (intro w hSw; (try dsimp only at hSw); (try (obtain ⟨z1, z2, z3, z4, z5, z6⟩ := hSw)); go_simp; try rfl)
          case go13 =>
          simp only [Act.put, List.setIfInBounds_toArray, List.set_cons_zero, List.set_cons_succ, List.getElem_toArray, List.getElem_cons_zero, List.getElem_cons_succ]
          refine wpAnyH_take (i := 14) (v := ?val14) rfl (by kernel_rfl) (by kernel_rfl) (by kernel_rfl) (fun _ _ _ h => h) (Or.inl ⟨by rfl, ?hy14⟩) hHeld ?go14
          case hy14 => (intro w hSw; (try dsimp only at hSw); (try (obtain ⟨z1, z2, z3, z4, z5, z6⟩ := hSw)); go_simp; try rfl)
          case go14 =>
          simp only [Act.put, List.setIfInBounds_toArray, List.set_cons_zero, List.set_cons_succ, List.getElem_toArray, List.getElem_cons_zero, List.getElem_cons_succ]
          refine wpAnyH_take (i := 15) (v := ?val15) rfl (by kernel_rfl) (by kernel_rfl) (by kernel_rfl) (fun _ _ _ h => h) (Or.inl ⟨by rfl, ?hy15⟩) hHeld ?go15
          case hy15 => (intro w hSw; (try dsimp only at hSw); (try (obtain ⟨z1, z2, z3, z4, z5, z6⟩ := hSw)); go_simp; try rfl)
          case go15 =>
          simp only [Act.put, List.setIfInBounds_toArray, List.set_cons_zero, List.set_cons_succ, List.getElem_toArray, List.getElem_cons_zero, List.getElem_cons_succ]
          refine wpAnyH_take (i := 17) (v := ?val17) rfl (by kernel_rfl) (by kernel_rfl) (by kernel_rfl) (fun _ _ _ h => h) (Or.inl ⟨by rfl, ?hy17⟩) hHeld ?go17
          case hy17 => (intro w hSw; (try dsimp only at hSw); (try (obtain ⟨z1, z2, z3, z4, z5, z6⟩ := hSw)); go_simp; try rfl)
          case go17 =>
          simp only [Act.put, List.setIfInBounds_toArray, List.set_cons_zero, List.set_cons_succ, List.getElem_toArray, List.getElem_cons_zero, List.getElem_cons_succ]
          refine wpAnyH_take (i := 18) (v := ?val18) rfl (by kernel_rfl) (by kernel_rfl) (by kernel_rfl) (fun _ _ _ h => h) (Or.inl ⟨by rfl, ?hy18⟩) hHeld ?go18
          case hy18 => (intro w hSw; (try dsimp only at hSw); (try (obtain ⟨z1, z2, z3, z4, z5, z6⟩ := hSw)); go_simp; try rfl)
          case go18 =>
          simp only [Act.put, List.setIfInBounds_toArray, List.set_cons_zero, List.set_cons_succ, List.getElem_toArray, List.getElem_cons_zero, List.getElem_cons_succ]
          refine wpAnyH_take (i := 19) (v := ?val19) rfl (by kernel_rfl) (by kernel_rfl) (by kernel_rfl) (fun _ _ _ h => h) (Or.inl ⟨by rfl, ?hy19⟩) hHeld ?go19
          case hy19 => (intro w hSw; (try dsimp only at hSw); (try (obtain ⟨z1, z2, z3, z4, z5, z6⟩ := hSw)); go_simp; try rfl)
          case go19 =>
          simp only [Act.put, List.setIfInBounds_toArray, List.set_cons_zero, List.set_cons_succ, List.getElem_toArray, List.getElem_cons_zero, List.getElem_cons_succ]
          refine wpAnyH_take (i := 20) (v := ?val20) rfl (by kernel_rfl) (by kernel_rfl) (by kernel_rfl) (fun _ _ _ h => h) (Or.inl ⟨by rfl, ?hy20⟩) hHeld ?go20
          case hy20 => (intro w hSw; (try dsimp only at hSw); (try (obtain ⟨z1, z2, z3, z4, z5, z6⟩ := hSw)); go_simp; try rfl)
          case go20 =>
          simp only [Act.put, List.setIfInBounds_toArray, List.set_cons_zero, List.set_cons_succ, List.getElem_toArray, List.getElem_cons_zero, List.getElem_cons_succ]
          refine wpAnyH_take (i := 21) (v := ?val21) rfl (by kernel_rfl) (by kernel_rfl) (by kernel_rfl) (fun _ _ _ h => h) (Or.inl ⟨by rfl, ?hy21⟩) hHeld ?go21
          case hy21 => (intro w hSw; (try dsimp only at hSw); (try (obtain ⟨z1, z2, z3, z4, z5, z6⟩ := hSw)); go_simp; try rfl)
          case go21 =>
          simp only [Act.put, List.setIfInBounds_toArray, List.set_cons_zero, List.set_cons_succ, List.getElem_toArray, List.getElem_cons_zero, List.getElem_cons_succ]
          refine wpAnyH_take (i := 22) (v := ?val22) rfl (by kernel_rfl) (by kernel_rfl) (by kernel_rfl) (fun _ _ _ h => h) (Or.inl ⟨by rfl, ?hy22⟩) hHeld ?go22
          case hy22 => (intro w hSw; (try dsimp only at hSw); (try (obtain ⟨z1, z2, z3, z4, z5, z6⟩ := hSw)); go_simp; try rfl)
          case go22 =>
          simp only [Act.put, List.setIfInBounds_toArray, List.set_cons_zero, List.set_cons_succ, List.getElem_toArray, List.getElem_cons_zero, List.getElem_cons_succ]
          refine wpAnyH_take (i := 23) (v := ?val23) rfl (by kernel_rfl) (by kernel_rfl) (by kernel_rfl) (fun _ _ _ h => h) (Or.inl ⟨by rfl, ?hy23⟩) hHeld ?go23
          case hy23 => (intro w hSw; (try dsimp only at hSw); (try (obtain ⟨z1, z2, z3, z4, z5, z6⟩ := hSw)); go_simp; try rfl)
          case go23 =>
          simp only [Act.put, List.setIfInBounds_toArray, List.set_cons_zero, List.set_cons_succ, List.getElem_toArray, List.getElem_cons_zero, List.getElem_cons_succ]
          refine wpAnyH_take (i := 24) (v := ?val24) rfl (by kernel_rfl) (by kernel_rfl) (by kernel_rfl) (fun _ _ _ h => h) (Or.inl ⟨by rfl, ?hy24⟩) hHeld ?go24
          case hy24 => (intro w hSw; (try dsimp only at hSw); (try (obtain ⟨z1, z2, z3, z4, z5, z6⟩ := hSw)); go_simp; try rfl)
          case go24 =>
          simp only [Act.put, List.setIfInBounds_toArray, List.set_cons_zero, List.set_cons_succ, List.getElem_toArray, List.getElem_cons_zero, List.getElem_cons_succ]
          refine wpAnyH_ready (rs := [16]) (by kernel_rfl) (by simp) ?_
          refine AllReadyH.cons (o := { dst := some 121, op := Op.call { callee := Callee.value (Operand.func 81), args := #[Operand.tmp 112, Operand.tmp 120], argTypes := #[22, 2] }, type := 181, pos := "run.go:82", after := #[{ on := 7, ground := Ground.data }, { on := 15, ground := Ground.data }], guard := none }) rfl (fun K hK => ?_) AllReadyH.nil
          go_simp
          refine (HCi.out _).mono ?_
          rintro e w3 ⟨rfl, rfl⟩
          exact ⟨rfl, HG3.out _ (by repeat first | exact Below.refl _ _ | refine Below.drew ?_)⟩
        · obtain ⟨im, him⟩ : ∃ im, im = nb.toNat := ⟨_, rfl⟩
          rw [← him] at h5 h6
          have HCi : Hid (∀ W, Calls Tryz.prog 81 #[.slice p5 l5 c5, .int .i64 nb] W fun e w' => e = .returned (.pointer (some ⟨bb, im, none⟩)) ∧ w' = W) := by rw [him]; exact hC
          have H1 : Hid (¬ (nb < 0 ∨ ((zS r1.s xa).length : Int) ≤ nb) ∧ ∃ n j, xa = some j ∧ r1.ab[j]? = some (bb, n) ∧ im = nb.toNat) := ⟨h1, n, j, i1, i2, him⟩
          have ho9 : bb ≠ ob := fun e => HP1.out.2.2.1.notX HP1.out.1 (.inr (.inl (List.mem_map.2 ⟨(bb, n), List.mem_of_getElem? i2, e⟩)))
          have hg9 : bb ≠ gs := fun e => by
            have q1 := HP1.out.1.lo bb (List.mem_map.2 ⟨(bb, n), List.mem_of_getElem? i2, rfl⟩)
            have q2 := zz HSA.out.c0
            have q3 := HX.out.size
            have q4 := HP1.out.1.lt
            omega
          clear hC h1 i1 i2 h2 h3 h4 him
          go_wp2_with fail
          go_region_held3 (fun w' => w'.cell? ⟨gs, ps + k * 10 + 2, none⟩ = some (.int .i64 (ia : Int)) ∧ w'.cell? ⟨gs, ps + k * 10 + 3, none⟩ = some (.int .i64 (ib : Int)) ∧ w'.cell? ⟨gs, ps + k * 10 + 4, none⟩ = some (.int .i64 (ic : Int)) ∧ w'.cell? ⟨ob, ia * 2 + 1, none⟩ = some (.slice p5 l5 c5) ∧ w'.cell? ⟨ob, ib * 2, none⟩ = some (.int .i64 nb) ∧ w'.cell? ⟨ob, ic * 2, none⟩ = some (.int .i64 nc))
            (first | (go_keep; done) | ((try dsimp only); refine ⟨?_, ?_, ?_, ?_, ?_, ?_⟩ <;> first | (go_keep; done) | (rw [World.cell?_setCell_far _ _ _ _ (by first | exact hg9 | exact ho9)]; first | assumption | (go_keep; done) | (simp [*]; done)) | (go_simp; done) | (simp [*]; done) | assumption))
            (first | (go_at_call 81; refine (HCi.out _).mono ?_; rintro e w3 ⟨rfl, rfl⟩))
          all_goals
            go_wp2
            obtain ⟨l1, l2⟩ := HFi.out w1.drew bb im (Below.refl _ _).drew H1.out
            exact ⟨⟨k + 1, by simp, l1⟩, l2⟩
      have hr8 : Rk8 s.code := by show s.code = 1 ∨ s.code = 2 ∨ s.code = 3 ∨ s.code = 7 ∨ s.code = 9 ∨ s.code = 10 ∨ s.code = 11 ∨ s.code = 14; omega
      have HE9 : Hid (goN X.fs g (d + 1) F 0 o r.s = (gb (zp X.fs g2 (d + 1) s o') fun v => goN X.fs g2 (d + 1) F (k + 1) (o'.set s.dst.toNat v)) r1.s) := by rw [HE8.out, sg_r hr8]; rfl
      have hne9 := gb_ne (fun out => by rw [← HE9.out]; exact HNe.out out)
      have HRk : Hid (∀ W, Below w1.heap.size w1 W → Calls Tryz.prog 82 #[ptr X.P, .pointer (some ⟨gs, ps + k * 10, none⟩), .slice (some ⟨ob, 0, none⟩) kl kl] W (RkP X W r1 (d + 1) (zp X.fs g2 (d + 1) s o' r1.s))) := fun W hb => by
        obtain ⟨b1, b2, b3⟩ := HBl.out W hb
        have := rk_any HX.out HFn.out HSA.out HOk.out hr8 (HC.out g2 HG2.out.2) b1 b3 HQ.out.2.2.2.1 (by rw [HKl.out]; exact hkm) hne9.1
        rw [HKl.out] at this
        exact this
      obtain ⟨hd0, hd1⟩ := HOk.out.dst hr8
      have s1 := HX.out.cell HP1.out.1 HSA.out.c1
      obtain ⟨id, hid⟩ : ∃ id : Nat, s.dst = id := ⟨s.dst.toNat, by omega⟩
      rw [hid] at s1
      have HID : Hid (s.dst.toNat = id) := by rw [hid]; rfl
      have hlt : id < kl := by have := HK.out; omega
      obtain ⟨cd, hcd⟩ : ∃ cd, s.code = cd := ⟨_, rfl⟩
      rw [hcd] at s0 h8 h4 h6 h5 h13 h12
      have t8 : (cd == 8) = false := by simpa using h8
      have t4 : (cd == 4) = false := by simpa using h4
      have t5 : (cd == 5) = false := by simpa using h5
      have t6 : (cd == 6) = false := by simpa using h6
      have t12 : (cd == 12) = false := by simpa using h12
      have t13 : (cd == 13) = false := by simpa using h13
      have HEr : Hid (∀ W, Below w1.heap.size w1 W → ∀ k5 w2 r2 d2, Sm X.w0 X.P X.fv w2 r2 d2 → Fz X.P NoE W r1 w2 r2 → zp X.fs g2 (d + 1) s o' r1.s = .error (k5, r2.s.out) → G (endE k5) w2) := fun W hb k5 w2 r2 d2 h1 h2 h3 => by
        rw [← HG.out, HE.out, HE9.out, gb_e h3]
        exact ⟨r2, d2, h1, HP1.out.2.1.trans ((Fz.below hb).trans h2.no), .inr ⟨k5, rfl, rfl⟩⟩
      have HOn : Hid (∀ W, Below w1.heap.size w1 W → ∀ w2 r2, Sm X.w0 X.P X.fv w2 r2 (d + 1) → Fz X.P NoE W r1 w2 r2 → OwM w2 ob r2.ab o') := fun W hb w2 r2 h1 h2 => by
        obtain ⟨b1, b2, b3⟩ := HBl.out W hb
        exact b3.mono (h2.blk ob b3.lt (b3.notX b1) (fun e => e)) h2.pre
      have HFin : Hid (∀ W, Below w1.heap.size w1 W → ∀ w2 r2 n5 x5 p5 l5 c5, Sm X.w0 X.P X.fv w2 r2 (d + 1) → Fz X.P NoE W r1 w2 r2 → zp X.fs g2 (d + 1) s o' r1.s = .ok ((n5, x5), r2.s) → QvS r2.ab x5 (.slice p5 l5 c5) → LpI X fb fo mb F w r d ob g o ((w2.setCell ⟨ob, id * 2, none⟩ (.int .i64 n5)).setCell ⟨ob, id * 2 + 1, none⟩ (.slice p5 l5 c5)) (k + 1) ∧ fuelW X.P ((w2.setCell ⟨ob, id * 2, none⟩ (.int .i64 n5)).setCell ⟨ob, id * 2 + 1, none⟩ (.slice p5 l5 c5)) < fuelW X.P wr) := fun W hb w2 r2 n5 x5 p5 l5 c5 h1 h2 h3 h4 => by
        have ho2 := HOn.out W hb w2 r2 h1 h2
        have hnx := ho2.notX h1
        have hfl := fl_reck (fl_go X.fs g2) (d + 1) s o' r1.s _ _ h3
        refine HNx.out _ r2 (o'.set id (n5, x5)) (k + 1) g2 ((h1.setL hnx HO.out.2.2).setL hnx HO.out.2.2) (((Fz.below hb).trans h2.no).setE.setE) (ho2.put (x := (n5, x5)) (by rw [HKl.out]; exact hlt) h4) (by rw [List.length_set]; exact HQ.out.2.2.2.1) HK1.out HG2.out.1 ?_ hfl
        rw [HE9.out, gb_o h3, HID.out]
      have HS1 : Hid (∀ w2 r2, Sm X.w0 X.P X.fv w2 r2 (d + 1) → w2.cell? ⟨gs, ps + k * 10 + 1, none⟩ = some (.int .i64 (id : Int))) := fun w2 r2 h1 => by
        have := HX.out.cell h1 HSA.out.c1
        rw [hid] at this
        exact this
      have HOc : Hid (∀ w2 r2, OwM w2 ob r2 o' → ∃ v1 v2, w2.cell? ⟨ob, id * 2, none⟩ = some v1 ∧ w2.cell? ⟨ob, id * 2 + 1, none⟩ = some v2 ∧ w2.frozen? ⟨ob, id * 2, none⟩ = false ∧ w2.frozen? ⟨ob, id * 2 + 1, none⟩ = false) := fun w2 r2 h => by
        obtain ⟨qq, a1, a2, _⟩ := h.get (i := (id : Int)) (by omega) (by rw [HKl.out]; omega)
        rw [Int.toNat_natCast] at a1 a2
        exact ⟨_, _, a1, a2, h.free _, h.free _⟩
      clear hr8 hne9 hd0 hd1 hid hcd hcode
      go_wp2_with fail
      go_region_with (go_at_call 82; refine (HRk.out _ (by repeat first | exact Below.refl _ _ | refine Below.drew ?_)).mono ?_; rintro e w2 ⟨r2, d2, z1, z2, ⟨⟨n5, x5⟩, p5, l5, c5, rfl, hx5, rfl, hq5⟩ | ⟨k5, hx5, rfl⟩⟩; rotate_left; exact ⟨rfl, HEr.out _ (by repeat first | exact Below.refl _ _ | refine Below.drew ?_) k5 _ r2 d2 z1 z2 hx5⟩; have HL2 : Hid (LpI X fb fo mb F w r d ob g o ((w2.setCell ⟨ob, id * 2, none⟩ (.int .i64 n5)).setCell ⟨ob, id * 2 + 1, none⟩ (.slice p5 l5 c5)) (k + 1) ∧ fuelW X.P ((w2.setCell ⟨ob, id * 2, none⟩ (.int .i64 n5)).setCell ⟨ob, id * 2 + 1, none⟩ (.slice p5 l5 c5)) < fuelW X.P wr) := HFin.out _ (by repeat first | exact Below.refl _ _ | refine Below.drew ?_) w2 r2 n5 x5 p5 l5 c5 z1 z2 hx5 hq5; have s11 := HS1.out w2 r2 z1; obtain ⟨v1, v2, y1, y2, y3, y4⟩ := HOc.out w2 r2.ab (HOn.out _ (by repeat first | exact Below.refl _ _ | refine Below.drew ?_) w2 r2 z1 z2); clear z1 z2 hx5 hq5)
      all_goals
        go_wp2
        exact ⟨⟨k + 1, by simp, HL2.out.1⟩, HL2.out.2⟩
theorem call_all {X : Mx} (hX : MxOk X) (hF : FnsOk X) (g : Nat) : CallC X g := Nat.strongRecOn g (fun g ih => call_step hX hF ih)
end Go.Proofs.YtnfhpdbbfejioaaGreatDoor.Mid
