/- GN GO -/
import Derived.Test.YtnfhpdbbfejioaaGreatDoorQ25
namespace Go.Proofs.YtnfhpdbbfejioaaGreatDoor
set_option linter.unusedVariables false
set_option linter.unusedSimpArgs false
set_option maxRecDepth 100000
set_option maxHeartbeats 4000000
open Go Go.RowKit
theorem ev_8 (fs : By → Option Fun) (g d : Nat) (o : Own) (a n : Int) (nm op : By) (l r xs : Tr) : evE fs (g + 1) d o (nd 8 a n nm op l r xs) = gb (evE fs g d o l) fun x => gb (evE fs g d o r) fun y => gb (itemG x.2 y.1) fun n => gp (n, none) := by rw [qN]; simp
theorem ev_3a (fs : By → Option Fun) (g d : Nat) (o : Own) (a n : Int) (nm op : By) (l r xs : Tr) (h : op = [38, 38]) : evE fs (g + 1) d o (nd 3 a n nm op l r xs) = gb (evE fs g d o l) fun x => if x.1 = 0 then gp (0, none) else gb (evE fs g d o r) fun y => gp (tr01 (decide (y.1 ≠ 0)), none) := by rw [qN]; simp [h]
theorem ev_3o (fs : By → Option Fun) (g d : Nat) (o : Own) (a n : Int) (nm op : By) (l r xs : Tr) (h : op = [124, 124]) : evE fs (g + 1) d o (nd 3 a n nm op l r xs) = gb (evE fs g d o l) fun x => if x.1 ≠ 0 then gp (1, none) else gb (evE fs g d o r) fun y => gp (tr01 (decide (y.1 ≠ 0)), none) := by rw [qN]; simp [h]
theorem ev_3 (fs : By → Option Fun) (g d : Nat) (o : Own) (a n : Int) (nm op : By) (l r xs : Tr) (h1 : op ≠ [38, 38]) (h2 : op ≠ [124, 124]) : evE fs (g + 1) d o (nd 3 a n nm op l r xs) = gb (evE fs g d o l) fun x => gb (evE fs g d o r) fun y => gb (bothG op x.1 y.1) fun z => gp (z, none) := by rw [qN]; simp [h1, h2]
theorem go_item {X : Cx} (hP : PbO X) {g bl br : Nat} {a n : Int} {nm op : By} {l r xs : Tr} {vl vr : Value} (hb : X.w0.heap[bl]? = some (.cells #[vl] 245)) (hb' : X.w0.heap[br]? = some (.cells #[vr] 245)) (hl : GoE X g l vl) (hr : GoE X g r vr) : GoE X (g + 1) (nd 8 a n nm op l r xs) (.func (.func 197) #[] #[ptr bl, ptr br]) := by
 intro w r0 d M m o hs ho hne
 rw [ev_8] at hne ⊢
 have h1 := hs.old hb hP (by decide)
 have c1 := z_ (i := 0) h1 rfl
 have HS : Hid (St X.w0 X.P X.fv w r0 d) := hs
 have HO : Hid (OwS (w.alloc R0) M m r0.ab o) := ho.below (al_bel w R0)
 have z1 : bl < w.heap.size := (Array.getElem?_eq_some_iff.1 h1).1
 have HNe : Hid (∀ y s1, evE X.fs g d o l r0.s = .ok (y, s1) → ∀ out, (fun x => gb (evE X.fs g d o r) fun y => gb (itemG x.2 y.1) fun n => gp (n, none)) y s1 ≠ .error (99, out)) := (zW hne).2
 have HP : Hid (PbO X) := hP
 have HBr : Hid (X.w0.heap[br]? = some (.cells #[vr] 245)) := hb'
 have HR : Hid (GoE X g r vr) := hr
 obtain ⟨k, cap, rfl, hen, hc⟩ := sub_in hl hs ho (zW hne).1
 have HC : Hid (Calls Tryz.prog k (#[.map (some M)] ++ cap) (w.alloc R0) (EP X (w.alloc R0) r0 d (evE X.fs g d o l r0.s))) := hc
 have hen' : ∀ (args : Array Value) (w : World), (callFunc k args).run Tryz.prog w = .ok (.enter k args) w := hen
 refine ⟨197, _, rfl, ent197, ?_⟩
 show Calls Tryz.prog 197 #[.map (some M), ptr bl, ptr br] w _
 generalize hG : EP X w r0 d (gb (evE X.fs g d o l) (fun x => gb (evE X.fs g d o r) fun y => gb (itemG x.2 y.1) fun n => gp (n, none)) r0.s) = G
 have HG : Hid (EP X w r0 d (gb (evE X.fs g d o l) (fun x => gb (evE X.fs g d o r) fun y => gb (itemG x.2 y.1) fun n => gp (n, none)) r0.s) = G) := hG
 clear hs ho hne hb h1 hG hc hl hen hb' hr hP
 have hf0 := fv0
 have hf1 := fv1
 go_enter Tryz.func197, Tryz.ntmps197
 go_wp2
 refine HC.out.mono ?_
 rintro e w1 ⟨r1, h1, hf, ⟨y, p, ll, c, hx, rfl, hq⟩ | ⟨k9, out, hx, he9⟩⟩
 rotate_left
 ·obtain ⟨_, older, rfl, _⟩ := id he9
  refine ⟨rfl, ?_⟩
  rw [← HG.out, qR hx]
  exact ep_err h1 hf he9
 have HF : Hid (St X.w0 X.P X.fv w1 r1 d ∧ Fz X.P NoE (w.alloc R0) r0 w1 r1) := ⟨h1, hf⟩
 have HX : Hid (evE X.fs g d o l r0.s = .ok (y, r1.s)) := hx
 have HQ : Hid (QvS r1.ab y.2 (.slice p ll c)) := hq
 have HO1 : Hid (OwS w1 M m r1.ab o) := HO.out.keeps (HS.out.below (al_bel w R0)) hf
 have c2 : w1.cell? ⟨br, 0, none⟩ = some vr := z_ (i := 0) (h1.old HBr.out HP.out (by decide)) rfl
 have hk := (qE HS.out hf).1
 have hN := HNe.out y r1.s hx
 clear h1 hf hx hq hen' c1 z1
 obtain ⟨k2, cap2, rfl, hen2, hc2⟩ := HR.out w1 r1 d M m o HF.out.1 HO1.out (zW hN).1
 have HC2 : Hid (Calls Tryz.prog k2 (#[.map (some M)] ++ cap2) w1 (EP X w1 r1 d (evE X.fs g d o r r1.s))) := hc2
 have hen' : ∀ (args : Array Value) (w : World), (callFunc k2 args).run Tryz.prog w = .ok (.enter k2 args) w := hen2
 clear hN hc2 hen2
 go_wp2
 refine HC2.out.mono ?_
 rintro e w2 ⟨r2, h1, hf, ⟨z, p2, l2, c3, hx, rfl, hq⟩ | ⟨k9, out, hx, he9⟩⟩
 rotate_left
 ·obtain ⟨_, older, rfl, _⟩ := id he9
  refine ⟨rfl, ?_⟩
  rw [← HG.out, zR HX.out, qR hx]
  exact ep_err h1 (HF.out.2.trans hf) he9
 have HF2 : Hid (St X.w0 X.P X.fv w2 r2 d ∧ Fz X.P NoE (w.alloc R0) r0 w2 r2) := ⟨h1, HF.out.2.trans hf⟩
 have HX2 : Hid (evE X.fs g d o r r1.s = .ok (z, r2.s)) := hx
 have HPre : Hid (r1.ab <+: r2.ab) := hf.pre
 have hk2 := (qE HS.out HF2.out.2).1
 clear h1 hf hx hq hk c2 hen'
 cases hy2 : y.2 with
 | none =>
  have hq := HQ.out
  rw [hy2] at hq
  injection hq with q1 q2 q3
  subst q1 q2 q3
  have HB : Hid (itemG y.2 z.1 r2.s = .error (3, r2.s.out)) := if_pos (by rw [hy2]; show z.1 < 0 ∨ (0 : Int) ≤ z.1; omega)
  clear hy2
  go_wp2_with (go_at_call 186; fail)
  refine (item_nil _ _).mono ?_
  rintro e w3 ⟨rfl, rfl⟩
  refine ⟨rfl, ?_⟩
  rw [← HG.out, zR HX.out, zR HX2.out, qR HB.out]
  exact EP.after (fz_in HF2.out.2) (ep_end HF2.out.1)
 | some i =>
  have hq := HQ.out.mono HPre.out
  rw [hy2] at hq
  obtain ⟨b, nb, hi, he⟩ := hq
  injection he with q1 q2 q3
  subst q1 q2 q3
  obtain ⟨li, a1, a2, a3, a4⟩ := HF2.out.1.arr i b c hi
  have HA : Hid (arrOf r2.s y.2 = li) := by
   show arrOf r2.s y.2 = li
   rw [hy2]
   show r2.s.hp.getD i [] = li
   rw [List.getD_eq_getElem?_getD, a1]
   rfl
  have HLn : Hid (li.length = c) := a2
  have HB4 : Hid (w2.heap[b]? = some (.cells (ints li).toArray 2)) := a4
  clear hy2 hi a1 a2 a4
  go_wp2_with (go_at_call 186; fail)
  refine (item_any _ _ _ _ _ a3).mono ?_
  rintro e w3 ⟨⟨hn, rfl⟩ | ⟨hn1, hn2, rfl⟩, rfl⟩
  ·refine ⟨rfl, ?_⟩
   have HB : itemG y.2 z.1 r2.s = .error (3, r2.s.out) := if_pos (by rw [HA.out, HLn.out]; exact hn)
   rw [← HG.out, zR HX.out, zR HX2.out, qR HB]
   exact EP.after (fz_in HF2.out.2) (ep_end HF2.out.1)
  ·obtain ⟨v, hv⟩ : ∃ v, li[z.1.toNat]? = some v := ⟨li[z.1.toNat]'(by have := HLn.out; omega), List.getElem?_eq_getElem (by have := HLn.out; omega)⟩
   have HB : Hid (itemG y.2 z.1 r2.s = .ok (v, r2.s)) := by
    show itemG y.2 z.1 r2.s = _
    unfold itemG
    rw [HA.out, HLn.out, if_neg (by omega), List.getD_eq_getElem?_getD, hv]
    rfl
   have cv : w3.cell? ⟨b, z.1.toNat, none⟩ = some (.int .i64 v) := z_ HB4.out (by simp [ints, hv])
   obtain ⟨jz, hjz⟩ : ∃ jz, jz = z.1.toNat := ⟨_, rfl⟩
   rw [← hjz] at cv ⊢
   clear hv hn1 hn2 hjz
   go_wp2_with (go_at_call 196; fail)
   refine (qd _ _).mono ?_
   rintro e w3 ⟨rfl, hb2⟩
   have hk3 := blk_on hb2 hk2
   have b1 := z_ (i := 0) hk3 rfl
   have b2 := z_ (i := 1) hk3 rfl
   have b3 := zb hk3 0
   have b4 := zb hk3 1
   have HF3 : Hid (St X.w0 X.P X.fv w3 r2 d ∧ Fz X.P NoE (w.alloc R0) r0 w3 r2) := ⟨HF2.out.1.below hb2, HF2.out.2.trans (Fz.below hb2)⟩
   clear hk2 hb2 hk3
   go_wp2
   obtain ⟨e1, e2⟩ := ep_fin (y := (v, none)) (p := none) (l := 0) (c := 0) HS.out HF3.out.1 HF3.out.2 rfl
   refine bodyPost_ret (res248 Tryz.results197 _ _ w.heap.size _ _ rfl e1) rfl ?_
   rw [← HG.out, zR HX.out, zR HX2.out, zR HB.out]
   exact e2
theorem go_and {X : Cx} (hP : PbO X) {g bl br : Nat} {a n : Int} {nm op : By} {l r xs : Tr} {vl vr : Value} (hop : op = [38, 38]) (hb : X.w0.heap[bl]? = some (.cells #[vl] 245)) (hb' : X.w0.heap[br]? = some (.cells #[vr] 245)) (hl : GoE X g l vl) (hr : GoE X g r vr) : GoE X (g + 1) (nd 3 a n nm op l r xs) (.func (.func 222) #[] #[ptr bl, ptr br]) := by
 intro w r0 d M m o hs ho hne
 rw [ev_3a (h := hop)] at hne ⊢
 have h1 := hs.old hb hP (by decide)
 have c1 := z_ (i := 0) h1 rfl
 have HS : Hid (St X.w0 X.P X.fv w r0 d) := hs
 have HO : Hid (OwS (w.alloc R0) M m r0.ab o) := ho.below (al_bel w R0)
 have z1 : bl < w.heap.size := (Array.getElem?_eq_some_iff.1 h1).1
 have HNe : Hid (∀ y s1, evE X.fs g d o l r0.s = .ok (y, s1) → ∀ out, (fun x => if x.1 = 0 then gp (0, none) else gb (evE X.fs g d o r) fun y => gp (tr01 (decide (y.1 ≠ 0)), none)) y s1 ≠ .error (99, out)) := (zW hne).2
 have HP : Hid (PbO X) := hP
 have HBr : Hid (X.w0.heap[br]? = some (.cells #[vr] 245)) := hb'
 have HR : Hid (GoE X g r vr) := hr
 obtain ⟨k, cap, rfl, hen, hc⟩ := sub_in hl hs ho (zW hne).1
 have HC : Hid (Calls Tryz.prog k (#[.map (some M)] ++ cap) (w.alloc R0) (EP X (w.alloc R0) r0 d (evE X.fs g d o l r0.s))) := hc
 have hen' : ∀ (args : Array Value) (w : World), (callFunc k args).run Tryz.prog w = .ok (.enter k args) w := hen
 refine ⟨222, _, rfl, ent222, ?_⟩
 show Calls Tryz.prog 222 #[.map (some M), ptr bl, ptr br] w _
 generalize hG : EP X w r0 d (gb (evE X.fs g d o l) (fun x => if x.1 = 0 then gp (0, none) else gb (evE X.fs g d o r) fun y => gp (tr01 (decide (y.1 ≠ 0)), none)) r0.s) = G
 have HG : Hid (EP X w r0 d (gb (evE X.fs g d o l) (fun x => if x.1 = 0 then gp (0, none) else gb (evE X.fs g d o r) fun y => gp (tr01 (decide (y.1 ≠ 0)), none)) r0.s) = G) := hG
 clear hs ho hne hb h1 hG hc hl hen hb' hr hP
 have hf0 := fv0
 have hf1 := fv1
 go_enter Tryz.func222, Tryz.ntmps222
 go_wp2
 refine HC.out.mono ?_
 rintro e w1 ⟨r1, h1, hf, ⟨y, p, ll, c, hx, rfl, hq⟩ | ⟨k9, out, hx, he9⟩⟩
 rotate_left
 ·obtain ⟨_, older, rfl, _⟩ := id he9
  refine ⟨rfl, ?_⟩
  rw [← HG.out, qR hx]
  exact ep_err h1 hf he9
 have HF : Hid (St X.w0 X.P X.fv w1 r1 d ∧ Fz X.P NoE (w.alloc R0) r0 w1 r1) := ⟨h1, hf⟩
 have HX : Hid (evE X.fs g d o l r0.s = .ok (y, r1.s)) := hx
 have HQ : Hid (QvS r1.ab y.2 (.slice p ll c)) := hq
 have HO1 : Hid (OwS w1 M m r1.ab o) := HO.out.keeps (HS.out.below (al_bel w R0)) hf
 have c2 : w1.cell? ⟨br, 0, none⟩ = some vr := z_ (i := 0) (h1.old HBr.out HP.out (by decide)) rfl
 have hk := (qE HS.out hf).1
 have hN := HNe.out y r1.s hx
 clear h1 hf hx hq hen' c1 z1
 obtain ⟨n1, y2⟩ := y
 by_cases h0 : n1 = 0
 ·have hd : (n1 != 0) = false := by simp [h0]
  have H0 : Hid (n1 = 0) := h0
  clear h0 hN c2
  go_wp2_with (go_at_call 223; fail)
  refine (truth_t _ _).mono ?_
  rintro e w' ⟨rfl, rfl⟩
  go_wp2_with (go_at_call 196; fail)
  refine (qd _ _).mono ?_
  rintro e w3 ⟨rfl, hb2⟩
  have hk3 := blk_on hb2 hk
  have b1 := z_ (i := 0) hk3 rfl
  have b2 := z_ (i := 1) hk3 rfl
  have b3 := zb hk3 0
  have b4 := zb hk3 1
  have HF3 : Hid (St X.w0 X.P X.fv w3 r1 d ∧ Fz X.P NoE (w.alloc R0) r0 w3 r1) := ⟨HF.out.1.below hb2, HF.out.2.trans (Fz.below hb2)⟩
  clear hk hb2 hk3
  go_wp2
  obtain ⟨e1, e2⟩ := ep_fin (y := (tr01 false, none)) (p := none) (l := 0) (c := 0) HS.out HF3.out.1 HF3.out.2 rfl
  refine bodyPost_ret (res248 Tryz.results222 _ _ w.heap.size _ _ rfl e1) rfl ?_
  rw [← HG.out, zR HX.out, if_pos H0.out]
  exact e2
 ·have hd : (n1 != 0) = true := by simpa using h0
  have H0 : Hid (n1 ≠ 0) := h0
  rw [if_neg h0] at hN
  clear h0
  obtain ⟨k2, cap2, rfl, hen2, hc2⟩ := HR.out w1 r1 d M m o HF.out.1 HO1.out (zW hN).1
  have HC2 : Hid (Calls Tryz.prog k2 (#[.map (some M)] ++ cap2) w1 (EP X w1 r1 d (evE X.fs g d o r r1.s))) := hc2
  have hen' : ∀ (args : Array Value) (w : World), (callFunc k2 args).run Tryz.prog w = .ok (.enter k2 args) w := hen2
  clear hN hc2 hen2
  go_wp2
  refine HC2.out.mono ?_
  rintro e w2 ⟨r2, h1, hf, ⟨z, p2, l2, c3, hx, rfl, hq⟩ | ⟨k9, out, hx, he9⟩⟩
  rotate_left
  ·obtain ⟨_, older, rfl, _⟩ := id he9
   refine ⟨rfl, ?_⟩
   rw [← HG.out, zR HX.out, if_neg H0.out, qR hx]
   exact ep_err h1 (HF.out.2.trans hf) he9
  have HF2 : Hid (St X.w0 X.P X.fv w2 r2 d ∧ Fz X.P NoE (w.alloc R0) r0 w2 r2) := ⟨h1, HF.out.2.trans hf⟩
  have HX2 : Hid (evE X.fs g d o r r1.s = .ok (z, r2.s)) := hx
  have HPre : Hid (r1.ab <+: r2.ab) := hf.pre
  have hk2 := (qE HS.out HF2.out.2).1
  clear h1 hf hx hq hk c2 hen'
  go_wp2_with (go_at_call 223; fail)
  refine (truth_t _ _).mono ?_
  rintro e w' ⟨rfl, rfl⟩
  go_wp2_with (go_at_call 196; fail)
  refine (qd _ _).mono ?_
  rintro e w3 ⟨rfl, hb2⟩
  have hk3 := blk_on hb2 hk2
  have b1 := z_ (i := 0) hk3 rfl
  have b2 := z_ (i := 1) hk3 rfl
  have b3 := zb hk3 0
  have b4 := zb hk3 1
  have HF3 : Hid (St X.w0 X.P X.fv w3 r2 d ∧ Fz X.P NoE (w.alloc R0) r0 w3 r2) := ⟨HF2.out.1.below hb2, HF2.out.2.trans (Fz.below hb2)⟩
  clear hk2 hb2 hk3
  go_wp2
  obtain ⟨e1, e2⟩ := ep_fin (y := (tr01 (z.1 != 0), none)) (p := none) (l := 0) (c := 0) HS.out HF3.out.1 HF3.out.2 rfl
  refine bodyPost_ret (res248 Tryz.results222 _ _ w.heap.size _ _ rfl e1) rfl ?_
  rw [← HG.out, zR HX.out, if_neg H0.out, zR HX2.out, show decide (z.1 ≠ 0) = (z.1 != 0) by simp [bne, Bool.beq_eq_decide_eq]]
  exact e2
theorem go_or {X : Cx} (hP : PbO X) {g bl br : Nat} {a n : Int} {nm op : By} {l r xs : Tr} {vl vr : Value} (hop : op = [124, 124]) (hb : X.w0.heap[bl]? = some (.cells #[vl] 245)) (hb' : X.w0.heap[br]? = some (.cells #[vr] 245)) (hl : GoE X g l vl) (hr : GoE X g r vr) : GoE X (g + 1) (nd 3 a n nm op l r xs) (.func (.func 224) #[] #[ptr bl, ptr br]) := by
 intro w r0 d M m o hs ho hne
 rw [ev_3o (h := hop)] at hne ⊢
 have h1 := hs.old hb hP (by decide)
 have c1 := z_ (i := 0) h1 rfl
 have HS : Hid (St X.w0 X.P X.fv w r0 d) := hs
 have HO : Hid (OwS (w.alloc R0) M m r0.ab o) := ho.below (al_bel w R0)
 have z1 : bl < w.heap.size := (Array.getElem?_eq_some_iff.1 h1).1
 have HNe : Hid (∀ y s1, evE X.fs g d o l r0.s = .ok (y, s1) → ∀ out, (fun x => if x.1 ≠ 0 then gp (1, none) else gb (evE X.fs g d o r) fun y => gp (tr01 (decide (y.1 ≠ 0)), none)) y s1 ≠ .error (99, out)) := (zW hne).2
 have HP : Hid (PbO X) := hP
 have HBr : Hid (X.w0.heap[br]? = some (.cells #[vr] 245)) := hb'
 have HR : Hid (GoE X g r vr) := hr
 obtain ⟨k, cap, rfl, hen, hc⟩ := sub_in hl hs ho (zW hne).1
 have HC : Hid (Calls Tryz.prog k (#[.map (some M)] ++ cap) (w.alloc R0) (EP X (w.alloc R0) r0 d (evE X.fs g d o l r0.s))) := hc
 have hen' : ∀ (args : Array Value) (w : World), (callFunc k args).run Tryz.prog w = .ok (.enter k args) w := hen
 refine ⟨224, _, rfl, ent224, ?_⟩
 show Calls Tryz.prog 224 #[.map (some M), ptr bl, ptr br] w _
 generalize hG : EP X w r0 d (gb (evE X.fs g d o l) (fun x => if x.1 ≠ 0 then gp (1, none) else gb (evE X.fs g d o r) fun y => gp (tr01 (decide (y.1 ≠ 0)), none)) r0.s) = G
 have HG : Hid (EP X w r0 d (gb (evE X.fs g d o l) (fun x => if x.1 ≠ 0 then gp (1, none) else gb (evE X.fs g d o r) fun y => gp (tr01 (decide (y.1 ≠ 0)), none)) r0.s) = G) := hG
 clear hs ho hne hb h1 hG hc hl hen hb' hr hP
 have hf0 := fv0
 have hf1 := fv1
 go_enter Tryz.func224, Tryz.ntmps224
 go_wp2
 refine HC.out.mono ?_
 rintro e w1 ⟨r1, h1, hf, ⟨y, p, ll, c, hx, rfl, hq⟩ | ⟨k9, out, hx, he9⟩⟩
 rotate_left
 ·obtain ⟨_, older, rfl, _⟩ := id he9
  refine ⟨rfl, ?_⟩
  rw [← HG.out, qR hx]
  exact ep_err h1 hf he9
 have HF : Hid (St X.w0 X.P X.fv w1 r1 d ∧ Fz X.P NoE (w.alloc R0) r0 w1 r1) := ⟨h1, hf⟩
 have HX : Hid (evE X.fs g d o l r0.s = .ok (y, r1.s)) := hx
 have HQ : Hid (QvS r1.ab y.2 (.slice p ll c)) := hq
 have HO1 : Hid (OwS w1 M m r1.ab o) := HO.out.keeps (HS.out.below (al_bel w R0)) hf
 have c2 : w1.cell? ⟨br, 0, none⟩ = some vr := z_ (i := 0) (h1.old HBr.out HP.out (by decide)) rfl
 have hk := (qE HS.out hf).1
 have hN := HNe.out y r1.s hx
 clear h1 hf hx hq hen' c1 z1
 obtain ⟨n1, y2⟩ := y
 by_cases h0 : n1 = 0
 ·have hd : (n1 != 0) = false := by simp [h0]
  have H0 : Hid (n1 = 0) := h0
  rw [if_neg (by simpa using h0)] at hN
  clear h0
  obtain ⟨k2, cap2, rfl, hen2, hc2⟩ := HR.out w1 r1 d M m o HF.out.1 HO1.out (zW hN).1
  have HC2 : Hid (Calls Tryz.prog k2 (#[.map (some M)] ++ cap2) w1 (EP X w1 r1 d (evE X.fs g d o r r1.s))) := hc2
  have hen' : ∀ (args : Array Value) (w : World), (callFunc k2 args).run Tryz.prog w = .ok (.enter k2 args) w := hen2
  clear hN hc2 hen2
  go_wp2
  refine HC2.out.mono ?_
  rintro e w2 ⟨r2, h1, hf, ⟨z, p2, l2, c3, hx, rfl, hq⟩ | ⟨k9, out, hx, he9⟩⟩
  rotate_left
  ·obtain ⟨_, older, rfl, _⟩ := id he9
   refine ⟨rfl, ?_⟩
   rw [← HG.out, zR HX.out, if_neg (by simpa using H0.out), qR hx]
   exact ep_err h1 (HF.out.2.trans hf) he9
  have HF2 : Hid (St X.w0 X.P X.fv w2 r2 d ∧ Fz X.P NoE (w.alloc R0) r0 w2 r2) := ⟨h1, HF.out.2.trans hf⟩
  have HX2 : Hid (evE X.fs g d o r r1.s = .ok (z, r2.s)) := hx
  have HPre : Hid (r1.ab <+: r2.ab) := hf.pre
  have hk2 := (qE HS.out HF2.out.2).1
  clear h1 hf hx hq hk c2 hen'
  go_wp2_with (go_at_call 223; fail)
  refine (truth_t _ _).mono ?_
  rintro e w' ⟨rfl, rfl⟩
  go_wp2_with (go_at_call 196; fail)
  refine (qd _ _).mono ?_
  rintro e w3 ⟨rfl, hb2⟩
  have hk3 := blk_on hb2 hk2
  have b1 := z_ (i := 0) hk3 rfl
  have b2 := z_ (i := 1) hk3 rfl
  have b3 := zb hk3 0
  have b4 := zb hk3 1
  have HF3 : Hid (St X.w0 X.P X.fv w3 r2 d ∧ Fz X.P NoE (w.alloc R0) r0 w3 r2) := ⟨HF2.out.1.below hb2, HF2.out.2.trans (Fz.below hb2)⟩
  clear hk2 hb2 hk3
  go_wp2
  obtain ⟨e1, e2⟩ := ep_fin (y := (tr01 (z.1 != 0), none)) (p := none) (l := 0) (c := 0) HS.out HF3.out.1 HF3.out.2 rfl
  refine bodyPost_ret (res248 Tryz.results224 _ _ w.heap.size _ _ rfl e1) rfl ?_
  rw [← HG.out, zR HX.out, if_neg (by simpa using H0.out), zR HX2.out, show decide (z.1 ≠ 0) = (z.1 != 0) by simp [bne, Bool.beq_eq_decide_eq]]
  exact e2
 ·have hd : (n1 != 0) = true := by simpa using h0
  have H0 : Hid (n1 ≠ 0) := h0
  clear h0 hN c2
  go_wp2_with (go_at_call 223; fail)
  refine (truth_t _ _).mono ?_
  rintro e w' ⟨rfl, rfl⟩
  go_wp2_with (go_at_call 196; fail)
  refine (qd _ _).mono ?_
  rintro e w3 ⟨rfl, hb2⟩
  have hk3 := blk_on hb2 hk
  have b1 := z_ (i := 0) hk3 rfl
  have b2 := z_ (i := 1) hk3 rfl
  have b3 := zb hk3 0
  have b4 := zb hk3 1
  have HF3 : Hid (St X.w0 X.P X.fv w3 r1 d ∧ Fz X.P NoE (w.alloc R0) r0 w3 r1) := ⟨HF.out.1.below hb2, HF.out.2.trans (Fz.below hb2)⟩
  clear hk hb2 hk3
  go_wp2
  obtain ⟨e1, e2⟩ := ep_fin (y := (tr01 true, none)) (p := none) (l := 0) (c := 0) HS.out HF3.out.1 HF3.out.2 rfl
  refine bodyPost_ret (res248 Tryz.results224 _ _ w.heap.size _ _ rfl e1) rfl ?_
  rw [← HG.out, zR HX.out, if_pos H0.out]
  exact e2
end Go.Proofs.YtnfhpdbbfejioaaGreatDoor
