/- Package run, walked: expressions of two parts: both, either. -/
import Derived.Test.YtnfhpdbbfejioaaGreatDoorL25
namespace Go.Proofs.YtnfhpdbbfejioaaGreatDoor
set_option linter.unusedVariables false
set_option linter.unusedSimpArgs false
open Go Go.RowKit
set_option maxRecDepth 100000 in
set_option maxHeartbeats 2000000 in
theorem go_and {X : Cx} (hP : PbO X) {g bl br : Nat} {a n : Int} {nm op : By} {l r xs : Tr} {vl vr : Value} (hop : op = [38, 38]) (hb : X.w0.heap[bl]? = some (.cells #[vl] 245)) (hb' : X.w0.heap[br]? = some (.cells #[vr] 245)) (hl : GoE X g l vl) (hr : GoE X g r vr) : GoE X (g + 1) (nd 3 a n nm op l r xs) (.func (.func 222) #[] #[ptr bl, ptr br]) := by
  intro w r0 d M m o hs ho hne
  rw [ev_3a (h := hop)] at hne ⊢
  have h1 := hs.old hb hP (by decide)
  have c1 := cell_at (i := 0) h1 rfl
  have HS : Hid (St X.w0 X.P X.fv w r0 d) := hs
  have HO : Hid (OwS (w.alloc R0) M m r0.ab o) := ho.below (al_bel w R0)
  have z1 : bl < w.heap.size := (Array.getElem?_eq_some_iff.1 h1).1
  have HNe : Hid (∀ y s1, evE X.fs g d o l r0.s = .ok (y, s1) → ∀ out, (fun x => if x.1 = 0 then gp (0, none) else gb (evE X.fs g d o r) fun y => gp (tr01 (decide (y.1 ≠ 0)), none)) y s1 ≠ .error (99, out)) := (gb_ne hne).2
  have HP : Hid (PbO X) := hP
  have HBr : Hid (X.w0.heap[br]? = some (.cells #[vr] 245)) := hb'
  have HR : Hid (GoE X g r vr) := hr
  obtain ⟨k, cap, rfl, hen, hc⟩ := sub_in hl hs ho (gb_ne hne).1
  have HC : Hid (Calls Tryz.prog k (#[.map (some M)] ++ cap) (w.alloc R0) (EP X (w.alloc R0) r0 d (evE X.fs g d o l r0.s))) := hc
  have hen' : ∀ (args : Array Value) (w : World), (callFunc k args).run Tryz.prog w = .ok (.enter k args) w := hen
  refine ⟨222, _, rfl, ent222, ?_⟩
  show Calls Tryz.prog 222 #[.map (some M), ptr bl, ptr br] w _
  generalize hG : EP X w r0 d (gb (evE X.fs g d o l) (fun x => if x.1 = 0 then gp (0, none) else gb (evE X.fs g d o r) fun y => gp (tr01 (decide (y.1 ≠ 0)), none)) r0.s) = G
  have HG : Hid (EP X w r0 d (gb (evE X.fs g d o l) (fun x => if x.1 = 0 then gp (0, none) else gb (evE X.fs g d o r) fun y => gp (tr01 (decide (y.1 ≠ 0)), none)) r0.s) = G) := hG
  clear hs ho hne hb h1 hG hc hl hen hb' hr hP
  have hf0 := fv0
  have hf1 := fv1
  go_enter Tryz.func222, Tryz.ntmps222
  go_wp2
  refine HC.out.mono ?_
  rintro e w1 ⟨r1, h1, hf, ⟨y, p, ll, c, hx, rfl, hq⟩ | ⟨k9, out, hx, he9⟩⟩
  rotate_left
  · obtain ⟨_, older, rfl, _⟩ := id he9
    refine ⟨rfl, ?_⟩
    rw [← HG.out, gb_e hx]
    exact ep_err h1 hf he9
  have HF : Hid (St X.w0 X.P X.fv w1 r1 d ∧ Fz X.P NoE (w.alloc R0) r0 w1 r1) := ⟨h1, hf⟩
  have HX : Hid (evE X.fs g d o l r0.s = .ok (y, r1.s)) := hx
  have HQ : Hid (QvS r1.ab y.2 (.slice p ll c)) := hq
  have HO1 : Hid (OwS w1 M m r1.ab o) := HO.out.keeps (HS.out.below (al_bel w R0)) hf
  have c2 : w1.cell? ⟨br, 0, none⟩ = some vr := cell_at (i := 0) (h1.old HBr.out HP.out (by decide)) rfl
  have hk := (r0_kept HS.out hf).1
  have hN := HNe.out y r1.s hx
  clear h1 hf hx hq hen' c1 z1
  obtain ⟨n1, y2⟩ := y
  by_cases h0 : n1 = 0
  · have hd : (n1 != 0) = false := by simp [h0]
    have H0 : Hid (n1 = 0) := h0
    clear h0 hN c2
    go_wp2_with (go_at_call 223; fail)
    refine (truth_t _ _).mono ?_
    rintro e w' ⟨rfl, rfl⟩
    go_wp2_with (go_at_call 196; fail)
    refine (number_any _ _).mono ?_
    rintro e w3 ⟨rfl, hb2⟩
    have hk3 := blk_on hb2 hk
    have b1 := cell_at (i := 0) hk3 rfl
    have b2 := cell_at (i := 1) hk3 rfl
    have b3 := row_free hk3 0
    have b4 := row_free hk3 1
    have HF3 : Hid (St X.w0 X.P X.fv w3 r1 d ∧ Fz X.P NoE (w.alloc R0) r0 w3 r1) := ⟨HF.out.1.below hb2, HF.out.2.trans (Fz.below hb2)⟩
    clear hk hb2 hk3
    go_wp2
    obtain ⟨e1, e2⟩ := ep_fin (y := (tr01 false, none)) (p := none) (l := 0) (c := 0) HS.out HF3.out.1 HF3.out.2 rfl
    refine bodyPost_ret (res248 Tryz.results222 _ _ w.heap.size _ _ rfl e1) rfl ?_
    rw [← HG.out, gb_o HX.out, if_pos H0.out]
    exact e2
  · have hd : (n1 != 0) = true := by simpa using h0
    have H0 : Hid (n1 ≠ 0) := h0
    rw [if_neg h0] at hN
    clear h0
    obtain ⟨k2, cap2, rfl, hen2, hc2⟩ := HR.out w1 r1 d M m o HF.out.1 HO1.out (gb_ne hN).1
    have HC2 : Hid (Calls Tryz.prog k2 (#[.map (some M)] ++ cap2) w1 (EP X w1 r1 d (evE X.fs g d o r r1.s))) := hc2
    have hen' : ∀ (args : Array Value) (w : World), (callFunc k2 args).run Tryz.prog w = .ok (.enter k2 args) w := hen2
    clear hN hc2 hen2
    go_wp2
    refine HC2.out.mono ?_
    rintro e w2 ⟨r2, h1, hf, ⟨z, p2, l2, c3, hx, rfl, hq⟩ | ⟨k9, out, hx, he9⟩⟩
    rotate_left
    · obtain ⟨_, older, rfl, _⟩ := id he9
      refine ⟨rfl, ?_⟩
      rw [← HG.out, gb_o HX.out, if_neg H0.out, gb_e hx]
      exact ep_err h1 (HF.out.2.trans hf) he9
    have HF2 : Hid (St X.w0 X.P X.fv w2 r2 d ∧ Fz X.P NoE (w.alloc R0) r0 w2 r2) := ⟨h1, HF.out.2.trans hf⟩
    have HX2 : Hid (evE X.fs g d o r r1.s = .ok (z, r2.s)) := hx
    have HPre : Hid (r1.ab <+: r2.ab) := hf.pre
    have hk2 := (r0_kept HS.out HF2.out.2).1
    clear h1 hf hx hq hk c2 hen'
    go_wp2_with (go_at_call 223; fail)
    refine (truth_t _ _).mono ?_
    rintro e w' ⟨rfl, rfl⟩
    go_wp2_with (go_at_call 196; fail)
    refine (number_any _ _).mono ?_
    rintro e w3 ⟨rfl, hb2⟩
    have hk3 := blk_on hb2 hk2
    have b1 := cell_at (i := 0) hk3 rfl
    have b2 := cell_at (i := 1) hk3 rfl
    have b3 := row_free hk3 0
    have b4 := row_free hk3 1
    have HF3 : Hid (St X.w0 X.P X.fv w3 r2 d ∧ Fz X.P NoE (w.alloc R0) r0 w3 r2) := ⟨HF2.out.1.below hb2, HF2.out.2.trans (Fz.below hb2)⟩
    clear hk2 hb2 hk3
    go_wp2
    obtain ⟨e1, e2⟩ := ep_fin (y := (tr01 (z.1 != 0), none)) (p := none) (l := 0) (c := 0) HS.out HF3.out.1 HF3.out.2 rfl
    refine bodyPost_ret (res248 Tryz.results222 _ _ w.heap.size _ _ rfl e1) rfl ?_
    rw [← HG.out, gb_o HX.out, if_neg H0.out, gb_o HX2.out, show decide (z.1 ≠ 0) = (z.1 != 0) by simp [bne, Bool.beq_eq_decide_eq]]
    exact e2
set_option maxRecDepth 100000 in
set_option maxHeartbeats 2000000 in
theorem go_or {X : Cx} (hP : PbO X) {g bl br : Nat} {a n : Int} {nm op : By} {l r xs : Tr} {vl vr : Value} (hop : op = [124, 124]) (hb : X.w0.heap[bl]? = some (.cells #[vl] 245)) (hb' : X.w0.heap[br]? = some (.cells #[vr] 245)) (hl : GoE X g l vl) (hr : GoE X g r vr) : GoE X (g + 1) (nd 3 a n nm op l r xs) (.func (.func 224) #[] #[ptr bl, ptr br]) := by
  intro w r0 d M m o hs ho hne
  rw [ev_3o (h := hop)] at hne ⊢
  have h1 := hs.old hb hP (by decide)
  have c1 := cell_at (i := 0) h1 rfl
  have HS : Hid (St X.w0 X.P X.fv w r0 d) := hs
  have HO : Hid (OwS (w.alloc R0) M m r0.ab o) := ho.below (al_bel w R0)
  have z1 : bl < w.heap.size := (Array.getElem?_eq_some_iff.1 h1).1
  have HNe : Hid (∀ y s1, evE X.fs g d o l r0.s = .ok (y, s1) → ∀ out, (fun x => if x.1 ≠ 0 then gp (1, none) else gb (evE X.fs g d o r) fun y => gp (tr01 (decide (y.1 ≠ 0)), none)) y s1 ≠ .error (99, out)) := (gb_ne hne).2
  have HP : Hid (PbO X) := hP
  have HBr : Hid (X.w0.heap[br]? = some (.cells #[vr] 245)) := hb'
  have HR : Hid (GoE X g r vr) := hr
  obtain ⟨k, cap, rfl, hen, hc⟩ := sub_in hl hs ho (gb_ne hne).1
  have HC : Hid (Calls Tryz.prog k (#[.map (some M)] ++ cap) (w.alloc R0) (EP X (w.alloc R0) r0 d (evE X.fs g d o l r0.s))) := hc
  have hen' : ∀ (args : Array Value) (w : World), (callFunc k args).run Tryz.prog w = .ok (.enter k args) w := hen
  refine ⟨224, _, rfl, ent224, ?_⟩
  show Calls Tryz.prog 224 #[.map (some M), ptr bl, ptr br] w _
  generalize hG : EP X w r0 d (gb (evE X.fs g d o l) (fun x => if x.1 ≠ 0 then gp (1, none) else gb (evE X.fs g d o r) fun y => gp (tr01 (decide (y.1 ≠ 0)), none)) r0.s) = G
  have HG : Hid (EP X w r0 d (gb (evE X.fs g d o l) (fun x => if x.1 ≠ 0 then gp (1, none) else gb (evE X.fs g d o r) fun y => gp (tr01 (decide (y.1 ≠ 0)), none)) r0.s) = G) := hG
  clear hs ho hne hb h1 hG hc hl hen hb' hr hP
  have hf0 := fv0
  have hf1 := fv1
  go_enter Tryz.func224, Tryz.ntmps224
  go_wp2
  refine HC.out.mono ?_
  rintro e w1 ⟨r1, h1, hf, ⟨y, p, ll, c, hx, rfl, hq⟩ | ⟨k9, out, hx, he9⟩⟩
  rotate_left
  · obtain ⟨_, older, rfl, _⟩ := id he9
    refine ⟨rfl, ?_⟩
    rw [← HG.out, gb_e hx]
    exact ep_err h1 hf he9
  have HF : Hid (St X.w0 X.P X.fv w1 r1 d ∧ Fz X.P NoE (w.alloc R0) r0 w1 r1) := ⟨h1, hf⟩
  have HX : Hid (evE X.fs g d o l r0.s = .ok (y, r1.s)) := hx
  have HQ : Hid (QvS r1.ab y.2 (.slice p ll c)) := hq
  have HO1 : Hid (OwS w1 M m r1.ab o) := HO.out.keeps (HS.out.below (al_bel w R0)) hf
  have c2 : w1.cell? ⟨br, 0, none⟩ = some vr := cell_at (i := 0) (h1.old HBr.out HP.out (by decide)) rfl
  have hk := (r0_kept HS.out hf).1
  have hN := HNe.out y r1.s hx
  clear h1 hf hx hq hen' c1 z1
  obtain ⟨n1, y2⟩ := y
  by_cases h0 : n1 = 0
  · have hd : (n1 != 0) = false := by simp [h0]
    have H0 : Hid (n1 = 0) := h0
    rw [if_neg (by simpa using h0)] at hN
    clear h0
    obtain ⟨k2, cap2, rfl, hen2, hc2⟩ := HR.out w1 r1 d M m o HF.out.1 HO1.out (gb_ne hN).1
    have HC2 : Hid (Calls Tryz.prog k2 (#[.map (some M)] ++ cap2) w1 (EP X w1 r1 d (evE X.fs g d o r r1.s))) := hc2
    have hen' : ∀ (args : Array Value) (w : World), (callFunc k2 args).run Tryz.prog w = .ok (.enter k2 args) w := hen2
    clear hN hc2 hen2
    go_wp2
    refine HC2.out.mono ?_
    rintro e w2 ⟨r2, h1, hf, ⟨z, p2, l2, c3, hx, rfl, hq⟩ | ⟨k9, out, hx, he9⟩⟩
    rotate_left
    · obtain ⟨_, older, rfl, _⟩ := id he9
      refine ⟨rfl, ?_⟩
      rw [← HG.out, gb_o HX.out, if_neg (by simpa using H0.out), gb_e hx]
      exact ep_err h1 (HF.out.2.trans hf) he9
    have HF2 : Hid (St X.w0 X.P X.fv w2 r2 d ∧ Fz X.P NoE (w.alloc R0) r0 w2 r2) := ⟨h1, HF.out.2.trans hf⟩
    have HX2 : Hid (evE X.fs g d o r r1.s = .ok (z, r2.s)) := hx
    have HPre : Hid (r1.ab <+: r2.ab) := hf.pre
    have hk2 := (r0_kept HS.out HF2.out.2).1
    clear h1 hf hx hq hk c2 hen'
    go_wp2_with (go_at_call 223; fail)
    refine (truth_t _ _).mono ?_
    rintro e w' ⟨rfl, rfl⟩
    go_wp2_with (go_at_call 196; fail)
    refine (number_any _ _).mono ?_
    rintro e w3 ⟨rfl, hb2⟩
    have hk3 := blk_on hb2 hk2
    have b1 := cell_at (i := 0) hk3 rfl
    have b2 := cell_at (i := 1) hk3 rfl
    have b3 := row_free hk3 0
    have b4 := row_free hk3 1
    have HF3 : Hid (St X.w0 X.P X.fv w3 r2 d ∧ Fz X.P NoE (w.alloc R0) r0 w3 r2) := ⟨HF2.out.1.below hb2, HF2.out.2.trans (Fz.below hb2)⟩
    clear hk2 hb2 hk3
    go_wp2
    obtain ⟨e1, e2⟩ := ep_fin (y := (tr01 (z.1 != 0), none)) (p := none) (l := 0) (c := 0) HS.out HF3.out.1 HF3.out.2 rfl
    refine bodyPost_ret (res248 Tryz.results224 _ _ w.heap.size _ _ rfl e1) rfl ?_
    rw [← HG.out, gb_o HX.out, if_neg (by simpa using H0.out), gb_o HX2.out, show decide (z.1 ≠ 0) = (z.1 != 0) by simp [bne, Bool.beq_eq_decide_eq]]
    exact e2
  · have hd : (n1 != 0) = true := by simpa using h0
    have H0 : Hid (n1 ≠ 0) := h0
    clear h0 hN c2
    go_wp2_with (go_at_call 223; fail)
    refine (truth_t _ _).mono ?_
    rintro e w' ⟨rfl, rfl⟩
    go_wp2_with (go_at_call 196; fail)
    refine (number_any _ _).mono ?_
    rintro e w3 ⟨rfl, hb2⟩
    have hk3 := blk_on hb2 hk
    have b1 := cell_at (i := 0) hk3 rfl
    have b2 := cell_at (i := 1) hk3 rfl
    have b3 := row_free hk3 0
    have b4 := row_free hk3 1
    have HF3 : Hid (St X.w0 X.P X.fv w3 r1 d ∧ Fz X.P NoE (w.alloc R0) r0 w3 r1) := ⟨HF.out.1.below hb2, HF.out.2.trans (Fz.below hb2)⟩
    clear hk hb2 hk3
    go_wp2
    obtain ⟨e1, e2⟩ := ep_fin (y := (tr01 true, none)) (p := none) (l := 0) (c := 0) HS.out HF3.out.1 HF3.out.2 rfl
    refine bodyPost_ret (res248 Tryz.results224 _ _ w.heap.size _ _ rfl e1) rfl ?_
    rw [← HG.out, gb_o HX.out, if_pos H0.out]
    exact e2
end Go.Proofs.YtnfhpdbbfejioaaGreatDoor
