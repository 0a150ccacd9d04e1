/- Package run: whatever is ready goes as it is meant: the induction on gas. -/
import Derived.Test.YtnfhpdbbfejioaaGreatDoorL30
namespace Go.Proofs.YtnfhpdbbfejioaaGreatDoor
set_option linter.unusedVariables false
set_option linter.unusedSimpArgs false
open Go Go.RowKit
theorem ClE.nil {w : World} {P : Nat} {v : Value} (h : ClE w P .nil v) : False := by unfold ClE at h; exact h
theorem ClE.form {w : World} {P : Nat} {t : Tr} {v : Value} (hn : IsNd t) (h : ClE w P t v) : ∃ k cap, v = .func (.func k) #[] cap ∧ Ent k := by
  obtain ⟨c, a, n, nm, op, l, r, g, rfl⟩ := hn
  rw [ClE] at h
  rcases h with ⟨_, bx, rfl, _⟩ | ⟨_, bx, rfl, _⟩ | ⟨_, bx, bl, br, vl, vr, rfl, _⟩ | ⟨_, bl, vl, rfl, _⟩ | ⟨_, bp, bx, ba, g, ys, rfl, _⟩ | ⟨_, bl, vl, rfl, _⟩ | ⟨_, bl, vl, rfl, _⟩ | ⟨_, bl, br, vl, vr, rfl, _⟩ | ⟨_, bp, rfl, _⟩
  · exact ⟨_, _, rfl, ent200⟩
  · exact ⟨_, _, rfl, ent189⟩
  · split
    · exact ⟨_, _, rfl, ent222⟩
    · split
      · exact ⟨_, _, rfl, ent224⟩
      · exact ⟨_, _, rfl, ent225⟩
  · split
    · exact ⟨_, _, rfl, ent227⟩
    · exact ⟨_, _, rfl, ent228⟩
  · exact ⟨_, _, rfl, ent229⟩
  · exact ⟨_, _, rfl, ent193⟩
  · exact ⟨_, _, rfl, ent195⟩
  · exact ⟨_, _, rfl, ent197⟩
  · exact ⟨_, _, rfl, ent198⟩
theorem nil_nd {t : Tr} (h : t = .nil ∨ IsNd t) {w : World} {P : Nat} {v : Value} (hc : ClE w P t v) : IsNd t := by
  rcases h with rfl | h
  · exact hc.nil.elim
  · exact h
/-- A chain of expressions, one by one. -/
theorem cle_chain {w : World} {P : Nat} {fs : By → Option Fun} : ∀ (xs : List Tr) (ys : List Value), ClE w P (chain xs) (.tuple ys.toArray) → GoodE (chain xs) → cokE fs (chain xs) →
    ys.length = xs.length ∧ ∀ (i : Nat) (x : Tr) (u : Value), xs[i]? = some x → ys[i]? = some u → IsNd x ∧ GoodE x ∧ ClE w P x u ∧ cokE fs x
  | [], ys, h, _, _ => by
    unfold chain at h
    rw [ClE] at h
    have : ys = [] := by simpa using h
    subst this
    exact ⟨rfl, fun i x u hx => by simp at hx⟩
  | x :: xs, ys, h, hg, hk => by
    unfold chain at h hg hk
    rw [ClE] at h
    rw [GoodE] at hg
    rw [cokE] at hk
    obtain ⟨y, ys', e, h1, h2⟩ := h
    have e' : ys = y :: ys' := by simpa using e
    subst e'
    obtain ⟨a1, a2⟩ := cle_chain xs ys' h2 hg.2.2 hk.2
    refine ⟨by simp [a1], fun i x' u hx hu => ?_⟩
    cases i with
    | zero =>
      simp only [List.getElem?_cons_zero, Option.some.injEq] at hx hu
      subst hx hu
      exact ⟨hg.1, hg.2.1, h1, hk.1⟩
    | succ i =>
      simp only [List.getElem?_cons_succ] at hx hu
      exact a2 i x' u hx hu
/-- Statements that are ready, one by one. -/
theorem clb_open {w : World} {P : Nat} {fs : By → Option Fun} : ∀ (t : Tr) (us : List Value), GoodS t → ClB w P t us → cokB fs t →
    ∃ xs, t = chain xs ∧ us.length = xs.length ∧ ∀ (i : Nat) (x : Tr) (u : Value), xs[i]? = some x → us[i]? = some u → ∃ t' us', GoodS (cc x t') ∧ ClB w P (cc x t') (u :: us') ∧ cokB fs (cc x t')
  | t, us, hg, h, hk => by
    have hg0 := hg
    unfold GoodS at hg
    split at hg
    · rename_i c a nm ix v th el g
      have h0 := h
      have hk0 := hk
      rw [ClB] at h
      rw [cokB] at hk
      obtain ⟨u, rest, rfl, hr, _⟩ := h
      obtain ⟨_, _, _, _, _, _, _, _, _, _, gg⟩ := hg
      obtain ⟨xs, e, a1, a2⟩ := clb_open g rest gg hr hk.2.2.2.2.2
      refine ⟨_ :: xs, by rw [e]; rfl, by simp [a1], fun i x' u' hx hu => ?_⟩
      cases i with
      | zero =>
        simp only [List.getElem?_cons_zero, Option.some.injEq] at hx hu
        subst hx hu
        exact ⟨g, rest, hg0, h0, hk0⟩
      | succ i =>
        simp only [List.getElem?_cons_succ] at hx hu
        exact a2 i x' u' hx hu
    · rw [ClB] at h
      subst h
      exact ⟨[], rfl, rfl, fun i x u hx => by simp at hx⟩
    · exact hg.elim
/-- Such a row has closures. -/
theorem clb_form {w : World} {P : Nat} {x t : Tr} {u : Value} {us : List Value} (hg : GoodS (cc x t)) (h : ClB w P (cc x t) (u :: us)) : ∃ kf cf, u = .func (.func kf) #[] cf := by
  obtain ⟨c, a, nm, ix, v, th, el, rfl, _⟩ := goodS_open hg
  rw [ClB] at h
  obtain ⟨u', rest, e, _, h⟩ := h
  injection e with e _
  subst e
  rcases h with ⟨_, bi, bv, bs, vi, vv, rfl, _⟩ | ⟨_, bv, bt, be, vt, ve, vv, at', ae, pt, pe, gt', ge, ts, es, rfl, _⟩ | ⟨_, bv, bt, bp, vv, vt, at', pt, gt', ts, rfl, _⟩ | ⟨_, bv, vv, rfl, _⟩ | ⟨_, bp, bv, vv, rfl, _⟩ | ⟨_, bv, vv, rfl, _⟩ | ⟨_, bv, bs, vv, rfl, _⟩
  all_goals exact ⟨_, _, rfl⟩
/-- A function that is ready. -/
structure FnR (X : Cx) (nm : By) (F : Fun) : Prop where
  go : ∃ (q9 : Option Addr) (cp kb : Nat) (cb : Array Value), (∃ Mf nf f, X.fv = .map (some Mf) ∧ MapV X.w0 Mf nf f ∧ f nm = some (.agg #[.slice q9 F.ps.length cp, .func (.func kb) #[] cb])) ∧ (∀ (i : Nat) (p : By × Int), F.ps[i]? = some p → ∃ g9 cs, q9 = some ⟨g9, 0, none⟩ ∧ X.w0.heap[g9]? = some (.cells cs 144) ∧ cs[i * 2]? = some (str p.1)) ∧ BlV X.w0 X.P F.body (.func (.func kb) #[] cb)
  few : ∀ p ∈ F.ps, p.1.length ≤ 1000000
  good : GoodF F
  ok : cokB X.fs F.body
abbrev AllE (X : Cx) (g : Nat) : Prop := ∀ t v, IsNd t → GoodE t → ClE X.w0 X.P t v → cokE X.fs t → GoE X g t v
abbrev AllS (X : Cx) (g : Nat) : Prop := ∀ x t u us, GoodS (cc x t) → ClB X.w0 X.P (cc x t) (u :: us) → cokB X.fs (cc x t) → GoS X g x u
abbrev AllB (X : Cx) (g : Nat) : Prop := ∀ t v, GoodS t → chl t ≤ 1000000 → BlV X.w0 X.P t v → cokB X.fs t → GoB X g t v
theorem blk_all {X : Cx} (hP : PbO X) {g : Nat} (hS : ∀ g', g' ≤ g → AllS X g') : AllB X g := fun t v hg hc hb hk => by
  obtain ⟨a, p, gr, ts, rfl, h1, h2, h3, h4⟩ := hb
  obtain ⟨xs, rfl, e1, e2⟩ := clb_open t ts hg h4 hk
  rw [chl_chain] at hc
  refine go_block hP h1 h2 h3 e1 hc (fun i u hu => ?_) (fun i x u hx hu g' hg' => ?_)
  · obtain ⟨x, hx⟩ : ∃ x, xs[i]? = some x := ⟨xs[i]'(by rw [← e1]; exact (List.getElem?_eq_some_iff.1 hu).1), List.getElem?_eq_getElem _⟩
    obtain ⟨t', us', b1, b2, _⟩ := e2 i x u hx hu
    exact clb_form b1 b2
  · obtain ⟨t', us', b1, b2, b3⟩ := e2 i x u hx hu
    exact hS g' hg' x t' u us' b1 b2 b3
theorem ex_step {X : Cx} (hP : PbO X) (hF : ∀ nm F, X.fs nm = some F → FnR X nm F) {g : Nat} (hE : ∀ g', g' ≤ g → AllE X g') (hS : ∀ g', g' ≤ g → AllS X g') : AllE X (g + 1) := fun t v hn hg hc hk => by
  obtain ⟨c, a, n, nm, op, l, r, xg, rfl⟩ := hn
  have iE := hE g (Nat.le_refl _)
  rw [GoodE] at hg
  rw [cokE] at hk
  rw [ClE] at hc
  obtain ⟨_, _, _, _, tl, tr, gl, gr, gg, xs, hxs, hlen⟩ := hg
  obtain ⟨hnm, kl, kr, kg, kc⟩ := hk
  rcases hc with ⟨rfl, bx, rfl, e1⟩ | ⟨rfl, bx, rfl, e1⟩ | ⟨rfl, bx, bl, br, vl, vr, rfl, e1, e2, e3, e4, e5⟩ | ⟨rfl, bl, vl, rfl, e1, e2⟩ | ⟨rfl, bp, bx, ba, gq, ys, rfl, e1, e2, e3, e4, e5⟩ | ⟨rfl, bl, vl, rfl, e1, e2⟩ | ⟨rfl, bl, vl, rfl, e1, e2⟩ | ⟨rfl, bl, br, vl, vr, rfl, e1, e2, e3, e4⟩ | ⟨rfl, bp, rfl, e1⟩
  · exact go_num hP e1
  · exact go_name hP e1 hnm
  · have iL := iE l vl (nil_nd tl e4) gl e4 kl
    have iR := iE r vr (nil_nd tr e5) gr e5 kr
    split
    · rename_i h; exact go_and hP h e2 e3 iL iR
    · split
      · rename_i h; exact go_or hP h e2 e3 iL iR
      · rename_i h1 h2; exact go_two hP h1 h2 e1 e2 e3 iL iR
  · have iL := iE l vl (nil_nd tl e2) gl e2 kl
    split
    · rename_i h; exact go_neg hP h e1 iL
    · rename_i h; exact go_not hP h e1 iL
  · obtain ⟨F, hf, hps⟩ := kc rfl
    subst hxs
    rw [chl_chain] at hps
    obtain ⟨b1, b2⟩ := cle_chain xs ys e5 gg kg
    have R := hF nm F hf
    obtain ⟨q9, cp, kb, cb, f1, f2, f3⟩ := R.go
    have ek : Ent kb := by
      obtain ⟨_, _, _, _, e, _⟩ := f3
      injection e with e _ _
      injection e with e
      subst e
      exact ent87
    refine go_call hP (q9 := q9) (cp := cp) (kb := kb) (cb := cb) ⟨hf, f1, f2, R.few, fun g' hg' => blk_all hP (fun g'' h => hS g'' (by omega)) F.body _ R.good.1 R.good.2.1 f3 R.ok, ek⟩ hnm e1 e2 e3 e4 b1 hps hlen (fun i u hu => ?_) (fun i x u hx hu g' hg' => ?_)
    · obtain ⟨x, hx⟩ : ∃ x, xs[i]? = some x := ⟨xs[i]'(by rw [← b1]; exact (List.getElem?_eq_some_iff.1 hu).1), List.getElem?_eq_getElem _⟩
      obtain ⟨d1, _, d3, _⟩ := b2 i x u hx hu
      obtain ⟨k, cap, e, _⟩ := d3.form d1
      exact ⟨k, cap, e⟩
    · obtain ⟨d1, d2, d3, d4⟩ := b2 i x u hx hu
      exact hE g' hg' x u d1 d2 d3 d4
  · exact go_new hP e1 (iE l vl (nil_nd tl e2) gl e2 kl)
  · exact go_len hP e1 (iE l vl (nil_nd tl e2) gl e2 kl)
  · exact go_item hP e1 e2 (iE l vl (nil_nd tl e3) gl e3 kl) (iE r vr (nil_nd tr e4) gr e4 kr)
  · exact go_input hP e1
theorem st_step {X : Cx} (hP : PbO X) {g : Nat} (hE : ∀ g', g' ≤ g → AllE X g') (hS : ∀ g', g' ≤ g → AllS X g') : AllS X (g + 1) := fun x t u us hg hc hk => by
  obtain ⟨c, a, nm, ix, v, th, el, rfl, _, _, ti, gi, tv, gv, gt, lt, ge, le, _⟩ := goodS_open hg
  have iE := hE g (Nat.le_refl _)
  have iB : ∀ g', g' ≤ g → AllB X g' := fun g' h => blk_all hP (fun g'' h' => hS g'' (by omega))
  rw [cokB] at hk
  rw [ClB] at hc
  obtain ⟨hnm, ki, kv, kt, ke, _⟩ := hk
  obtain ⟨u', rest, e, _, hc⟩ := hc
  injection e with e _
  subst e
  rcases hc with ⟨rfl, bi, bv, bs, vi, vv, rfl, e1, e2, e3, e4, e5⟩ | ⟨rfl, bv, bt, be, vt, ve, vv, at', ae, pt, pe, gt', ge', ts, es, rfl, e1, e2, e3, e4, t1, t2, t3, t4, t5, s1, s2, s3, s4, s5⟩ | ⟨rfl, bv, bt, bp, vv, vt, at', pt, gt', ts, rfl, e1, e2, e3, e4, t1, t2, t3, t4, t5⟩ | ⟨rfl, bv, vv, rfl, e1, e2⟩ | ⟨rfl, bp, bv, vv, rfl, e1, e2, e3⟩ | ⟨rfl, bv, vv, rfl, e1, e2⟩ | ⟨hc12, bv, bs, vv, rfl, e1, e2, e3⟩
  · exact go_put3 hP hnm e3 e1 e2 (iE ix vi (nil_nd ti e4) gi e4 ki) (iE v vv (nil_nd tv e5) gv e5 kv)
  · exact go_if4 hP e1 e2 e3 (iE v vv (nil_nd tv e4) gv e4 kv) (iB g (Nat.le_refl _) th vt gt lt ⟨at', pt, gt', ts, t1, t2, t3, t4, t5⟩ kt) (iB g (Nat.le_refl _) el ve ge le ⟨ae, pe, ge', es, s1, s2, s3, s4, s5⟩ ke)
  · have nv := nil_nd tv e4
    obtain ⟨kk, cap, rfl, ek⟩ := e4.form nv
    subst t1
    exact go_while5 hP e1 e2 e3 (fun g' h => hE g' h v _ nv gv e4 kv) (fun g' h => iB g' h th _ gt lt ⟨at', pt, gt', ts, rfl, t2, t3, t4, t5⟩ kt) ek ent87
  · exact go_ret6 hP e1 (iE v vv (nil_nd tv e2) gv e2 kv)
  · exact go_print7 hP e1 e2 (iE v vv (nil_nd tv e3) gv e3 kv)
  · exact go_do8 hP e1 (iE v vv (nil_nd tv e2) gv e2 kv)
  · exact go_set1 hP hc12 hnm e2 e1 (iE v vv (nil_nd tv e3) gv e3 kv)
theorem all_go {X : Cx} (hP : PbO X) (hF : ∀ nm F, X.fs nm = some F → FnR X nm F) : ∀ g : Nat, ∀ g', g' ≤ g → AllE X g' ∧ AllS X g'
  | 0, g', h => by
    obtain rfl : g' = 0 := by omega
    exact ⟨fun t v _ _ _ _ w r d M n o _ _ hne => absurd rfl (hne r.s.out), fun x t u us _ _ _ w r d M n K o _ _ _ _ _ hne => absurd rfl (hne r.s.out)⟩
  | g + 1, g', h => by
    by_cases hg : g' ≤ g
    · exact all_go hP hF g g' hg
    · obtain rfl : g' = g + 1 := by omega
      exact ⟨ex_step hP hF (fun g' h => (all_go hP hF g g' h).1) (fun g' h => (all_go hP hF g g' h).2), st_step hP (fun g' h => (all_go hP hF g g' h).1) (fun g' h => (all_go hP hF g g' h).2)⟩
/-- Blocks go, with whatever gas. -/
theorem body_go {X : Cx} (hP : PbO X) (hF : ∀ nm F, X.fs nm = some F → FnR X nm F) (g : Nat) : AllB X g := blk_all hP fun g' h => (all_go hP hF g g' h).2
end Go.Proofs.YtnfhpdbbfejioaaGreatDoor
