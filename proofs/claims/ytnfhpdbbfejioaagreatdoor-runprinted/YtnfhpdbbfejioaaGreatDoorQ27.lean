/- GP -/
import Derived.Test.YtnfhpdbbfejioaaGreatDoorQ26
namespace Go.Proofs.YtnfhpdbbfejioaaGreatDoor
set_option linter.unusedVariables false
set_option linter.unusedSimpArgs false
set_option maxRecDepth 100000
set_option maxHeartbeats 4000000
open Go Go.RowKit
theorem bothG_is (op : By) (a b : Int) : bothG op a b = (match bothV op a b with | some n => gp n | none => gt 2) := by
 by_cases h1 : op = [43]
 ·subst h1; rfl
 by_cases h2 : op = [45]
 ·subst h2; rfl
 by_cases h3 : op = [42]
 ·subst h3; rfl
 by_cases h4 : op = [47]
 ·subst h4; by_cases hb : b = 0 <;> simp [bothG, bothV, hb]
 by_cases h5 : op = [37]
 ·subst h5; by_cases hb : b = 0 <;> simp [bothG, bothV, hb]
 ·unfold bothG bothV
  rw [if_neg h1, if_neg h2, if_neg h3, if_neg h4, if_neg h5, if_neg h1, if_neg h2, if_neg h3, if_neg h4, if_neg h5]
  rfl
theorem both_er {op : By} {a b : Int} {s : Sg} (h : bothV op a b = none) : bothG op a b s = .error (2, s.out) := by rw [bothG_is, h]; rfl
theorem both_ok {op : By} {a b n : Int} {s : Sg} (h : bothV op a b = some n) : bothG op a b s = .ok (n, s) := by rw [bothG_is, h]; rfl
theorem go_two {X : Cx} (hP : PbO X) {g bl br : Nat} {a n : Int} {nm op : By} {l r xs : Tr} {vl vr : Value} {bx : Nat} (ho1 : op ≠ [38, 38]) (ho2 : op ≠ [124, 124]) (hn9 : NodeC X.w0 bx 3 a n nm op) (hb : X.w0.heap[bl]? = some (.cells #[vl] 245)) (hb' : X.w0.heap[br]? = some (.cells #[vr] 245)) (hl : GoE X g l vl) (hr : GoE X g r vr) : GoE X (g + 1) (nd 3 a n nm op l r xs) (.func (.func 225) #[] #[ptr bl, ptr bx, ptr br]) := by
 intro w r0 d M m o hs ho hne
 rw [ev_3 (h1 := ho1) (h2 := ho2)] at hne ⊢
 have h1 := hs.old hb hP (by decide)
 have c1 := z_ (i := 0) h1 rfl
 have HS : Hid (St X.w0 X.P X.fv w r0 d) := hs
 have HO : Hid (OwS (w.alloc R0) M m r0.ab o) := ho.below (al_bel w R0)
 have z1 : bl < w.heap.size := (Array.getElem?_eq_some_iff.1 h1).1
 have HNe : Hid (∀ y s1, evE X.fs g d o l r0.s = .ok (y, s1) → ∀ out, (fun x => gb (evE X.fs g d o r) fun y => gb (bothG op x.1 y.1) fun z => gp (z, none)) y s1 ≠ .error (99, out)) := (zW hne).2
 have HP : Hid (PbO X) := hP
 have HN9 : Hid (NodeC X.w0 bx 3 a n nm op) := hn9
 have HBr : Hid (X.w0.heap[br]? = some (.cells #[vr] 245)) := hb'
 have HR : Hid (GoE X g r vr) := hr
 obtain ⟨k, cap, rfl, hen, hc⟩ := sub_in hl hs ho (zW hne).1
 have HC : Hid (Calls Tryz.prog k (#[.map (some M)] ++ cap) (w.alloc R0) (EP X (w.alloc R0) r0 d (evE X.fs g d o l r0.s))) := hc
 have hen' : ∀ (args : Array Value) (w : World), (callFunc k args).run Tryz.prog w = .ok (.enter k args) w := hen
 refine ⟨225, _, rfl, ent225, ?_⟩
 show Calls Tryz.prog 225 #[.map (some M), ptr bl, ptr bx, ptr br] w _
 generalize hG : EP X w r0 d (gb (evE X.fs g d o l) (fun x => gb (evE X.fs g d o r) fun y => gb (bothG op x.1 y.1) fun z => gp (z, none)) r0.s) = G
 have HG : Hid (EP X w r0 d (gb (evE X.fs g d o l) (fun x => gb (evE X.fs g d o r) fun y => gb (bothG op x.1 y.1) fun z => gp (z, none)) r0.s) = G) := hG
 clear hs ho hne hb h1 hG hc hl hen hb' hr hP hn9
 have hf0 := fv0
 have hf1 := fv1
 go_enter Tryz.func225, Tryz.ntmps225
 go_wp2
 refine HC.out.mono ?_
 rintro e w1 ⟨r1, h1, hf, ⟨y, p, ll, c, hx, rfl, hq⟩ | ⟨k9, out, hx, he9⟩⟩
 rotate_left
 ·obtain ⟨_, older, rfl, _⟩ := id he9
  refine ⟨rfl, ?_⟩
  rw [← HG.out, qR hx]
  exact ep_err h1 hf he9
 have HF : Hid (St X.w0 X.P X.fv w1 r1 d ∧ Fz X.P NoE (w.alloc R0) r0 w1 r1) := ⟨h1, hf⟩
 have HX : Hid (evE X.fs g d o l r0.s = .ok (y, r1.s)) := hx
 have HQ : Hid (QvS r1.ab y.2 (.slice p ll c)) := hq
 have HO1 : Hid (OwS w1 M m r1.ab o) := HO.out.keeps (HS.out.below (al_bel w R0)) hf
 have c2 : w1.cell? ⟨br, 0, none⟩ = some vr := z_ (i := 0) (h1.old HBr.out HP.out (by decide)) rfl
 have hk := (qE HS.out hf).1
 have hN := HNe.out y r1.s hx
 clear h1 hf hx hq hen' c1 z1
 obtain ⟨b, vl', vr', vg', hbx, hbn⟩ := HN9.out
 obtain ⟨yo, hyo, hyt⟩ := zt op
 have h1x := HF.out.1.old hbx HP.out (by decide)
 have h1n := HF.out.1.old hbn HP.out (by decide)
 have c3 : w1.cell? ⟨bx, 0, none⟩ = some (ptr b) := z_ (i := 0) h1x rfl
 have c4 : w1.cell? ⟨b, 4, none⟩ = some (.string yo) := by rw [← hyo]; exact z_ (i := 4) h1n rfl
 have HBx : Hid (X.w0.heap[bx]? = some (.cells #[ptr b] 145) ∧ X.w0.heap[b]? = some (.cells #[.int .i64 3, .int .i64 a, .int .i64 n, str nm, .string yo, vl', vr', vg'] 252)) := ⟨hbx, by rw [← hyo]; exact hbn⟩
 have HYo : Hid (yo.data.toList = op) := hyt
 obtain ⟨k2, cap2, rfl, hen2, -⟩ := HR.out w1 r1 d M m o HF.out.1 HO1.out (zW hN).1
 have HC2 : Hid (∀ W, Below w1.heap.size w1 W → Calls Tryz.prog k2 (#[.map (some M)] ++ cap2) W (EP X W r1 d (evE X.fs g d o r r1.s))) := fun W hb => by
  obtain ⟨k3, cap3, e3, _, hc3⟩ := HR.out W r1 d M m o (HF.out.1.below hb) (HO1.out.below hb) (zW hN).1
  injection e3 with e3 _ e4
  injection e3 with e3
  subst e3
  subst e4
  exact hc3
 have hen' : ∀ (args : Array Value) (w : World), (callFunc k2 args).run Tryz.prog w = .ok (.enter k2 args) w := hen2
 have HFd : Hid (∀ W, Below w1.heap.size w1 W → ∀ w2 r2, Fz X.P NoE W r1 w2 r2 → Fz X.P NoE (w.alloc R0) r0 w2 r2) := fun W hb w2 r2 hf => (HF.out.2.trans (Fz.below hb)).trans hf
 have HBr2 : Hid (X.w0.heap[br]? = some (.cells #[.func (.func k2) #[] cap2] 245)) := HBr.out
 clear hN hen2 hyo hyt hbx hbn h1x h1n
 go_wp2_with fail
 go_region_with
  (first
   |(go_at_call 226; refine (both_any _ _ _ _).mono ?_; rintro e w3 ⟨⟨zz, hz, rfl⟩ | ⟨hz, rfl⟩, rfl⟩; rotate_left; exact (by refine ⟨rfl, ?_⟩; rw [← HG.out, zR HX.out, zR HX2.out, qR (both_er (HYo.out ▸ hz))]; exact EP.after (fz_in HF2.out.2) (ep_end HF2.out.1)); have HZ : Hid (bothV op y.1 z.1 = some zz) := (HYo.out ▸ hz); clear hz)
   |(go_at_call 196; refine (qd _ _).mono ?_; rintro e w4 ⟨rfl, hb2⟩; have hk4 := blk_on hb2 hk2; have b1 := z_ (i := 0) hk4 rfl; have b2 := z_ (i := 1) hk4 rfl; have b3 := zb hk4 0; have b4 := zb hk4 1; have HF3 : Hid (St X.w0 X.P X.fv w4 r2 d ∧ Fz X.P NoE (w.alloc R0) r0 w4 r2) := ⟨HF2.out.1.below hb2, HF2.out.2.trans (Fz.below hb2)⟩; have t21 : w4.cell? ⟨bx, 0, none⟩ = some (ptr b) := z_ (i := 0) (HF3.out.1.old HBx.out.1 HP.out (by decide)) rfl; have t22 : w4.cell? ⟨b, 4, none⟩ = some (.string yo) := z_ (i := 4) (HF3.out.1.old HBx.out.2 HP.out (by decide)) rfl; have t23 : w4.cell? ⟨br, 0, none⟩ = some (.func (.func k2) #[] cap2) := z_ (i := 0) (HF3.out.1.old HBr2.out HP.out (by decide)) rfl)
   |(refine (HC2.out _ (by repeat first | exact Below.refl _ _ | refine Below.drew ?_)).mono ?_; rintro e w2 ⟨r2, h1, hf, ⟨z, p2, l2, c3', hx, rfl, hq⟩ | ⟨k9, out, hx, he9⟩⟩; rotate_left; exact (by obtain ⟨_, older, rfl, _⟩ := id he9; refine ⟨rfl, ?_⟩; rw [← HG.out, zR HX.out, qR hx]; exact ep_err h1 (HFd.out _ (by repeat first | exact Below.refl _ _ | refine Below.drew ?_) _ _ hf) he9); have HF2 : Hid (St X.w0 X.P X.fv w2 r2 d ∧ Fz X.P NoE (w.alloc R0) r0 w2 r2) := ⟨h1, HFd.out _ (by repeat first | exact Below.refl _ _ | refine Below.drew ?_) _ _ hf⟩; have HX2 : Hid (evE X.fs g d o r r1.s = .ok (z, r2.s)) := hx; have hk2 := (qE HS.out HF2.out.2).1; have t11 : w2.cell? ⟨bx, 0, none⟩ = some (ptr b) := z_ (i := 0) (h1.old HBx.out.1 HP.out (by decide)) rfl; have t12 : w2.cell? ⟨b, 4, none⟩ = some (.string yo) := z_ (i := 4) (h1.old HBx.out.2 HP.out (by decide)) rfl; have t13 : w2.cell? ⟨br, 0, none⟩ = some (.func (.func k2) #[] cap2) := z_ (i := 0) (h1.old HBr2.out HP.out (by decide)) rfl; clear h1 hf hx hq))
 all_goals
  clear hb2 hk4 t11 t12 t13 t21 t22 t23 c2 c3 c4
  go_wp2
  obtain ⟨e1, e2⟩ := ep_fin (y := (zz, none)) (p := none) (l := 0) (c := 0) HS.out HF3.out.1 HF3.out.2 rfl
  refine bodyPost_ret (res248 Tryz.results225 _ _ w.heap.size _ _ rfl e1) rfl ?_
  rw [← HG.out, zR HX.out, zR HX2.out, zR (both_ok HZ.out)]
  exact e2
end Go.Proofs.YtnfhpdbbfejioaaGreatDoor
