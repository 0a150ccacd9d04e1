/- GX -/
import Derived.Test.YtnfhpdbbfejioaaGreatDoorQ29
namespace Go.Proofs.YtnfhpdbbfejioaaGreatDoor
set_option linter.unusedVariables false
set_option linter.unusedSimpArgs false
set_option maxRecDepth 100000
set_option maxHeartbeats 4000000
open Go Go.RowKit
theorem und58 : Tryz.prog.underlying 58 = some (.map 9 69) := by kernel_rfl
theorem zero69 (w : World) : (zeroValue 69).run Tryz.prog w = .ok (.agg #[.slice none 0 0, .nilFunc]) w := by kernel_rfl
theorem gb_asc {α β γ : Type} (x : Go1 α) (f : α → Go1 β) (h : β → Go1 γ) : gb (gb x f) h = gb x fun a => gb (f a) h := by
 funext s
 unfold gb
 cases x s with
 | error e => rfl
 | ok p => rfl
theorem ev_5 (fs : By → Option Fun) (g d : Nat) (o : Own) (a n : Int) (nm op : By) (l r xs : Tr) {F : Fun} (h : fs nm = some F) : evE fs (g + 1) d o (nd 5 a n nm op l r xs) = gb (evA fs g d o xs) fun vs => gb (qT fs g d ((F.ps.map (·.1)).zip vs).reverse F.body) fun z => gp (z, none) := by
 rw [qN]
 simp [h]
 congr 1
 funext vs
 unfold qT
 by_cases h40 : 40 ≤ d
 ·rw [if_pos h40, if_pos h40]; rfl
 ·rw [if_neg h40, if_neg h40, gb_asc]; rfl
theorem ea_1 (fs : By → Option Fun) (g d : Nat) (o : Own) (x t : Tr) : evA fs (g + 1) d o (cc x t) = gb (evE fs g d o x) fun v => gb (evA fs g d o t) fun vs => gp (v :: vs) := by rw [evA_1]
theorem ea_0 (fs : By → Option Fun) (g d : Nat) (o : Own) : evA fs (g + 1) d o ce = gp [] := by rw [evA_1]
theorem ea_z (fs : By → Option Fun) (d : Nat) (o : Own) (t : Tr) (s : Sg) : evA fs 0 d o t s = .error (99, s.out) := rfl
structure FnO (X : Cx) (g : Nat) (nm : By) (F : Fun) (q9 : Option Addr) (cp kb : Nat) (cb : Array Value) : Prop where
 fs : X.fs nm = some F
 fn : ∃ Mf nf f, X.fv = .map (some Mf) ∧ MapV X.w0 Mf nf f ∧ f nm = some (.agg #[.slice q9 F.ps.length cp, .func (.func kb) #[] cb])
 row : ∀ (i : Nat) (p : By × Int), F.ps[i]? = some p → ∃ g9 cs, q9 = some ⟨g9, 0, none⟩ ∧ X.w0.heap[g9]? = some (.cells cs 144) ∧ cs[i * 2]? = some (str p.1)
 few : ∀ p ∈ F.ps, p.1.length ≤ 1000000
 body : ∀ g', g' ≤ g → GoB X g' F.body (.func (.func kb) #[] cb)
 ent : Ent kb
theorem gb_id {α : Type} (x : Go1 (List α)) : gb x (fun rest => gp ([] ++ rest)) = x := by
 funext s
 unfold gb
 cases x s with
 | error e => rfl
 | ok p => rfl
theorem zip_snoc {α β : Type} : ∀ (ns : List α) (vs : List β) (a : α) (v : β), ns[vs.length]? = some a → ns.zip (vs ++ [v]) = ns.zip vs ++ [(a, v)]
 | [], vs, a, v, h => by simp at h
 | n :: ns, [], a, v, h => by
  have e : n = a := by simpa using h
  subst e
  simp
 | n :: ns, w :: vs, a, v, h => by
  have := zip_snoc ns vs a v (by simpa using h)
  simp [this]
theorem OwS.keepsE {X : Cx} {E : Nat → Prop} {w w' : World} {r r' : Rs} {d M n : Nat} {o : Own} (h : OwS w M n r.ab o) (hs : St X.w0 X.P X.fv w r d) (hf : Fz X.P E w r w' r') (hE : ¬ E M) : OwS w' M n r'.ab o := by
 have hx := h.notX hs
 obtain ⟨f, h1, h2⟩ := h
 exact ⟨f, h1.kept (hf.blk M h1.lt hx hE), fun nm => (h2 nm).mono hf.pre⟩
theorem fz_new {P : Nat} {M' : Nat} {w w1 w2 : World} {r r1 r2 : Rs} (h : Fz P NoE w r w1 r1) (g : Fz P (fun b => b = M') w1 r1 w2 r2) (hM : w.heap.size ≤ M') : Fz P NoE w r w2 r2 := by
 have h3 := (h.no (E := fun b => b = M')).trans g
 exact ⟨h3.os, h3.tape, h3.output, h3.size, fun b hb hx _ => h3.blk b hb hx (by show ¬ b = M'; omega), h3.pre, h3.new⟩
structure CaI (X : Cx) (F : Fun) (xs : List Tr) (W3 : World) (r0 : Rs) (d M m M' g : Nat) (o : Own) (wr : World) (i : Nat) : Prop where
 at' : ∃ (g' : Nat) (r' : Rs) (vs : List Vl), vs.length = i ∧ St X.w0 X.P X.fv wr r' d ∧ Fz X.P (fun b => b = M') W3 r0 wr r' ∧ OwS wr M m r'.ab o ∧ OwS wr M' i r'.ab ((F.ps.map (·.1)).zip vs).reverse ∧ g' ≤ g ∧ evA X.fs g d o (chain xs) r0.s = gb (evA X.fs g' d o (chain (xs.drop i))) (fun rest => gp (vs ++ rest)) r'.s
theorem go_call {X : Cx} (hP : PbO X) {g bp bx ba gr : Nat} {a n : Int} {nm op : By} {l r : Tr} {xs : List Tr} {us : List Value} {F : Fun} {q9 : Option Addr} {cp kb : Nat} {cb : Array Value} (hF : FnO X g nm F q9 cp kb cb) (hnm : nm.length ≤ 1000000) (hbp : X.w0.heap[bp]? = some (.cells #[ptr X.P] 57)) (hbx : NodeC X.w0 bx 5 a n nm op) (hba : X.w0.heap[ba]? = some (.cells #[.slice (some ⟨gr, 0, none⟩) us.length us.length] 297)) (hgr : X.w0.heap[gr]? = some (.cells us.toArray 245)) (hlen : us.length = xs.length) (hps : F.ps.length = xs.length) (h6 : xs.length ≤ 1000000)
  (hform : ∀ (i : Nat) (u : Value), us[i]? = some u → ∃ kf cf, u = .func (.func kf) #[] cf) (hE : ∀ (i : Nat) (x : Tr) (u : Value), xs[i]? = some x → us[i]? = some u → ∀ g', g' ≤ g → GoE X g' x u) : GoE X (g + 1) (nd 5 a n nm op l r (chain xs)) (.func (.func 229) #[] #[ptr bp, ptr bx, ptr ba]) := by
 intro w r0 d M m o hs ho hne
 rw [ev_5 (h := hF.fs)] at hne ⊢
 obtain ⟨b, vl', vr', vg', hbx1, hbx2⟩ := hbx
 obtain ⟨Mf, nf, f, efv, hMf, hfnm⟩ := hF.fn
 obtain ⟨ys, hys⟩ : ∃ ys : ByteArray, ys = ⟨nm.toArray⟩ := ⟨_, rfl⟩
 have HOld : Hid (∀ W r, St X.w0 X.P X.fv W r d → W.cell? ⟨bp, 0, none⟩ = some (ptr X.P) ∧ W.cell? ⟨ba, 0, none⟩ = some (.slice (some ⟨gr, 0, none⟩) us.length us.length) ∧ W.heap[gr]? = some (.cells us.toArray 245)) := fun W r h => ⟨z_ (i := 0) (h.old hbp hP (by decide)) rfl, z_ (i := 0) (h.old hba hP (by decide)) rfl, h.old hgr hP (by decide)⟩
 obtain ⟨W1, hW1⟩ : ∃ W1, W1 = w.alloc R0 := ⟨_, rfl⟩
 have hs1 : St X.w0 X.P X.fv W1 r0 d := by rw [hW1]; exact hs.below (al_bel w R0)
 have c1 : W1.cell? ⟨bp, 0, none⟩ = some (ptr X.P) := z_ (i := 0) (hs1.old hbp hP (by decide)) rfl
 have c2 : W1.cell? ⟨X.P, 0, none⟩ = some (.map (some Mf)) := by rw [← efv]; exact z_ (i := 0) hs1.pb rfl
 have c3 : W1.cell? ⟨bx, 0, none⟩ = some (ptr b) := z_ (i := 0) (hs1.old hbx1 hP (by decide)) rfl
 have c4 : W1.cell? ⟨b, 3, none⟩ = some (.string ys) := by rw [hys]; exact z_ (i := 3) (hs1.old hbx2 hP (by decide)) rfl
 have hlkA : ∀ W r, St X.w0 X.P X.fv W r d → (Instr.lookup 58 (.map (some Mf)) (.string ys) false).run Tryz.prog W = .ok (.agg #[.slice q9 F.ps.length cp, .func (.func kb) #[] cb]) W := fun W r h => by
  have hne : Mf ≠ X.P := fun e => by
   obtain ⟨es, clock, ho⟩ := hMf.obj
   obtain ⟨ds, hd⟩ := hP
   rw [e, hd] at ho
   cases ho
  have := (hMf.kept (w' := W) (h.kp Mf hMf.lt hne)).look und58 (zero69 W) ys (by rw [hys]; simpa [ByteArray.size] using hnm)
  rw [this, hys]
  simp [hfnm]
 obtain ⟨np, hnp⟩ : ∃ np, np = F.ps.length := ⟨_, rfl⟩
 have l1 := hlkA W1.drew r0 (hs1.below (Below.refl _ _).drew)
 have l2 := hlkA (W1.alloc (.cells #[.slice none 0 0, .nilFunc] 69)).drew r0 (hs1.below (al_bel W1 _).drew)
 rw [← hnp] at l1 l2
 have c5 : W1.cell? ⟨ba, 0, none⟩ = some (.slice (some ⟨gr, 0, none⟩) us.length us.length) := (HOld.out W1 r0 hs1).2.1
 have z5 : ba < W1.heap.size := World.block_lt_of_cell? W1 _ c5
 obtain ⟨nu, hnu⟩ : ∃ nu, nu = us.length := ⟨_, rfl⟩
 have HNu : Hid (nu = us.length ∧ nu = xs.length ∧ nu = F.ps.length) := ⟨hnu, by rw [hnu]; exact hlen, by rw [hnu, hlen, hps]⟩
 have hnu6 : nu ≤ 1000000 := by rw [hnu, hlen]; exact h6
 rw [← hnu] at c5
 have z1 : bp < W1.heap.size := World.block_lt_of_cell? W1 _ c1
 have z2 : X.P < W1.heap.size := World.block_lt_of_cell? W1 _ c2
 have z3 : bx < W1.heap.size := World.block_lt_of_cell? W1 _ c3
 have z4 : b < W1.heap.size := World.block_lt_of_cell? W1 _ c4
 have HS : Hid (St X.w0 X.P X.fv w r0 d) := hs
 have HS1 : Hid (St X.w0 X.P X.fv W1 r0 d) := hs1
 have HO : Hid (OwS w M m r0.ab o) := ho
 have HNe : Hid (∀ out, gb (evA X.fs g d o (chain xs)) (fun vs => gb (qT X.fs g d ((F.ps.map (·.1)).zip vs).reverse F.body) fun z => gp ((z, none) : Vl)) r0.s ≠ .error (99, out)) := hne
 refine ⟨229, _, rfl, ent229, ?_⟩
 show Calls Tryz.prog 229 #[.map (some M), ptr bp, ptr bx, ptr ba] w _
 generalize hG : EP X w r0 d (gb (evA X.fs g d o (chain xs)) (fun vs => gb (qT X.fs g d ((F.ps.map (·.1)).zip vs).reverse F.body) fun z => gp ((z, none) : Vl)) r0.s) = G
 have HG : Hid (EP X w r0 d (gb (evA X.fs g d o (chain xs)) (fun vs => gb (qT X.fs g d ((F.ps.map (·.1)).zip vs).reverse F.body) fun z => gp ((z, none) : Vl)) r0.s) = G) := hG
 have HNp : Hid (np = F.ps.length) := hnp
 have HP : Hid (PbO X) := hP
 have HF9 : Hid (FnO X g nm F q9 cp kb cb) := hF
 have HFm : Hid (∀ (i : Nat) (u : Value), us[i]? = some u → ∃ kf cf, u = .func (.func kf) #[] cf) := hform
 have HEe : Hid (∀ (i : Nat) (x : Tr) (u : Value), xs[i]? = some x → us[i]? = some u → ∀ g', g' ≤ g → GoE X g' x u) := hE
 have hmm : ∀ W : World, (Instr.makeMap 71 (some (.int .i64 (nu : Int)))).run Tryz.prog W = .ok (.map (some W.heap.size)) (W.alloc (.map #[] 0)) := fun W => by simp [Instr.makeMap, go_sem]
 clear hform hE hnu hlen hps h6
 clear hs ho hne hG hlkA hMf hfnm hbp hba hgr hbx1 hbx2 hP efv hys hnp hF hs1
 go_enter Tryz.func229, Tryz.ntmps229
 go_upto_region 1 with fail
 have HW1 : Hid (W1 = w.alloc R0) := hW1
 rw [← hW1]
 clear hW1
 go_cut [6] (fun v6 wx => v6 = ptr W1.heap.size ∧ wx = (W1.alloc (.cells #[.slice q9 np cp, .func (.func kb) #[] cb] 69)).drew)
 case first =>
  go_region
  all_goals (go_wp2_with fail; go_meet; exact ⟨rfl, rfl⟩)
 case rest =>
  obtain ⟨rfl, rfl⟩ := hcut
  clear l1 l2 c2 c3 c4 z2 z3 z4
  go_wp2_with fail
  obtain ⟨W3, hW3⟩ : ∃ W3, W3 = ((W1.alloc (.cells #[.slice q9 np cp, .func (.func kb) #[] cb] 69)).alloc (.map #[] 0)).drew := ⟨_, rfl⟩
  have hb3 : Below W1.heap.size W1 W3 := by rw [hW3]; exact (jo _ _ _).drew
  have hz3 : W3.heap.size = W1.heap.size + 2 := by rw [hW3]; simp
  have i6 : W3.heap[W1.heap.size]? = some (.cells #[.slice q9 np cp, .func (.func kb) #[] cb] 69) := by rw [hW3]; exact al1 _ _ _
  have hm3 : MapV W3 (W1.heap.size + 1) 0 (fun _ => none) := by
   have := MapV.made (W1.alloc (.cells #[.slice q9 np cp, .func (.func kb) #[] cb] 69))
   have h2 : MapV ((W1.alloc (.cells #[.slice q9 np cp, .func (.func kb) #[] cb] 69)).alloc (.map #[] 0)) (W1.heap.size + 1) 0 (fun _ => none) := by simpa using this
   rw [hW3]
   exact h2.kept rfl
  have hs3 : St X.w0 X.P X.fv W3 r0 d := HS1.out.below hb3
  have hw1z : W1.heap.size = w.heap.size + 1 := by rw [HW1.out]; simp
  have hw0 : X.w0.heap.size ≤ w.heap.size := HS.out.le
  have hMl : M < w.heap.size := by obtain ⟨f, h1, _⟩ := HO.out; exact h1.lt
  rw [← hW3]
  clear hW3
  obtain ⟨B6, hB6⟩ : ∃ B6, B6 = W1.heap.size := ⟨_, rfl⟩
  rw [← hB6] at hz3 i6 hm3 hw1z ⊢
  have HB6 : Hid (∀ W r', Fz X.P (fun b => b = B6 + 1) W3 r0 W r' → W.heap[B6]? = some (.cells #[.slice q9 np cp, .func (.func kb) #[] cb] 69) ∧ W.heap[w.heap.size]? = some R0 ∧ ¬ Xs X.P r' w.heap.size) := fun W r' hf => by
   have x6 := HS.out.newX (b := B6) (by omega)
   have x0 := HS.out.newX (b := w.heap.size) (Nat.le_refl _)
   refine ⟨by rw [hf.blk B6 (by omega) x6 (by show ¬ B6 = B6 + 1; omega)]; exact i6, ?_, fun hx => ?_⟩
   ·rw [hf.blk w.heap.size (by omega) x0 (by show ¬ w.heap.size = B6 + 1; omega), hb3.block _ (by omega), HW1.out]
    exact heap_alloc_last _ _
   ·have := hf.new _ hx x0
    omega
  have HL9 : Hid (B6 = w.heap.size + 1) := hw1z
  have HM' : Hid (X.w0.heap.size ≤ B6 + 1 ∧ M ≠ B6 + 1) := ⟨by omega, by omega⟩
  have HFz3 : Hid (Fz X.P NoE (w.alloc R0) r0 W3 r0) := by show Fz _ _ _ _ _ _; rw [← HW1.out]; exact Fz.below hb3
  have HNeA : Hid (∀ out, evA X.fs g d o (chain xs) r0.s ≠ .error (99, out)) := (zW HNe.out).1
  have HSt3 : Hid (CaI X F xs W3 r0 d M m (B6 + 1) g o W3 0) := ⟨⟨g, r0, [], rfl, hs3, Fz.refl _ _ _ _, (HO.out.below (al_bel w R0)).below (by rw [← HW1.out]; exact hb3), ⟨_, hm3, fun nm => by rw [List.zip_nil_right]; exact ⟨.slice none 0 0, rfl, rfl⟩⟩, Nat.le_refl _, by rw [List.drop_zero, gb_id]⟩⟩
  clear hb3 hz3 i6 hm3 hs3 hw1z hw0 hMl hB6 c1 c5 z1 z5
  go_loopw [24] (fun v wr => ∃ i : Nat, i ≤ nu ∧ v = .int .i64 i ∧ Hid (CaI X F xs W3 r0 d M m (B6 + 1) g o wr i)) (fun v _ => nu - (intOf v).toNat)
  case atStart => exact ⟨0, Nat.zero_le _, rfl, HSt3⟩
  case round =>
   obtain ⟨i, hin, rfl, HI⟩ := hrel
   obtain ⟨g', r', vs, hvs, q1, q2, q3, q4, q5, q6⟩ := HI.out.at'
   obtain ⟨g2, hg2⟩ : ∃ g2, g' = g2 + 1 := by
    cases g' with
    | zero => exact absurd q6 (fun e => HNeA.out _ (e.trans (qR (ea_z _ _ _ _ _))))
    | succ g2 => exact ⟨g2, rfl⟩
   subst hg2
   have HQ : Hid (vs.length = i ∧ St X.w0 X.P X.fv wr r' d ∧ Fz X.P (fun b => b = B6 + 1) W3 r0 wr r' ∧ OwS wr M m r'.ab o ∧ OwS wr (B6 + 1) i r'.ab ((F.ps.map (·.1)).zip vs).reverse ∧ g2 ≤ g) := ⟨hvs, q1, q2, q3, q4, by omega⟩
   have HE : Hid (evA X.fs g d o (chain xs) r0.s = gb (evA X.fs (g2 + 1) d o (chain (xs.drop i))) (fun rest => gp (vs ++ rest)) r'.s) := q6
   by_cases hlt : i < nu
   ·obtain ⟨x, hx⟩ : ∃ x, xs[i]? = some x := ⟨xs[i]'(by rw [← HNu.out.2.1]; exact hlt), List.getElem?_eq_getElem _⟩
    obtain ⟨u, hu⟩ : ∃ u, us[i]? = some u := ⟨us[i]'(by rw [← HNu.out.1]; exact hlt), List.getElem?_eq_getElem _⟩
    obtain ⟨pp, hpp⟩ : ∃ pp, F.ps[i]? = some pp := ⟨F.ps[i]'(by rw [← HNu.out.2.2]; exact hlt), List.getElem?_eq_getElem _⟩
    obtain ⟨kf, cf, rfl⟩ := HFm.out i u hu
    obtain ⟨yp, hyp⟩ : ∃ yp : ByteArray, yp = ⟨pp.1.toArray⟩ := ⟨_, rfl⟩
    obtain ⟨gp', csp, hq9, hcsp, hcsp2⟩ := HF9.out.row i pp hpp
    subst hq9
    have HRd : Hid (∀ W r, St X.w0 X.P X.fv W r d → W.cell? ⟨gp', i * 2, none⟩ = some (.string yp)) := fun W r h => by rw [hyp]; exact z_ (h.old hcsp HP.out (by decide)) hcsp2
    have e1 := HRd.out wr r' q1
    have cu : wr.cell? ⟨gr, i, none⟩ = some (.func (.func kf) #[] cf) := z_ (HOld.out wr r' q1).2.2 (by simpa using hu)
    have e6 := z_ (i := 0) (HB6.out wr r' q2).1 rfl
    have HE2 : Hid (evA X.fs g d o (chain xs) r0.s = gb (evE X.fs g2 d o x) (fun v => gb (evA X.fs g2 d o (chain (xs.drop (i + 1)))) fun vs' => gp (vs ++ (v :: vs'))) r'.s) := by
     show _ = _
     rw [HE.out, dropc hx, ea_1, gb_asc]
     congr 1
     funext v
     rw [gb_asc]
     rfl
    have hN := (zW (fun out => by rw [← HE2.out]; exact HNeA.out out)).1
    have hgo := HEe.out i x _ hx hu g2 (by omega)
    obtain ⟨k3, cap3, e3, hen, -⟩ := hgo wr r' d M m o q1 q3 hN
    injection e3 with e3 _ e4
    injection e3 with e3
    subst e3
    subst e4
    have HC : Hid (∀ W, Below wr.heap.size wr W → Calls Tryz.prog kf (#[.map (some M)] ++ cf) W (EP X W r' d (evE X.fs g2 d o x r'.s))) := fun W hbW => by
     obtain ⟨k3, cap3, e3, _, hc3⟩ := hgo W r' d M m o (q1.below hbW) (q3.below hbW) hN
     injection e3 with e3 _ e4
     injection e3 with e3
     subst e3
     subst e4
     exact hc3
    have hen' : ∀ (args : Array Value) (w : World), (callFunc kf args).run Tryz.prog w = .ok (.enter kf args) w := hen
    have HYp : Hid (yp = ⟨pp.1.toArray⟩ ∧ pp.1.length ≤ 1000000 ∧ (F.ps.map (·.1))[i]? = some pp.1) := ⟨hyp, HF9.out.few pp (List.mem_of_getElem? hpp), by rw [List.getElem?_map, hpp]; rfl⟩
    have hnp : (i : Int) < (np : Int) := by rw [HNp.out, ← HNu.out.2.2]; omega
    have hnp2 : i < np := by omega
    clear hvs q1 q2 q3 q4 q5 q6 hx hu hpp hyp hcsp hcsp2 hN hgo hen
    go_wp2_with fail
    go_region_with
     (first
      |(refine (HC.out _ (by repeat first | exact Below.refl _ _ | refine Below.drew ?_)).mono ?_; rintro e w1 ⟨r1, h1, hf, ⟨y, p, ll, c, hx, rfl, hq⟩ | ⟨k9, out, hx, he9⟩⟩; rotate_left; exact (by obtain ⟨_, older, rfl, _⟩ := id he9; refine ⟨rfl, ?_⟩; rw [← HG.out, qR (show evA X.fs g d o (chain xs) r0.s = .error (k9, out) by rw [HE2.out, qR hx])]; exact ⟨r1, h1, fz_in (fz_new HFz3.out (HQ.out.2.2.1.trans ((Fz.below (by repeat first | exact Below.refl _ _ | refine Below.drew ?_)).trans hf).no) (by have := HM'.out; have := HL9.out; simp; omega)), .inr ⟨k9, out, rfl, he9⟩⟩); have hF1 : Fz X.P NoE wr r' w1 r1 := (Fz.below (by repeat first | exact Below.refl _ _ | refine Below.drew ?_)).trans hf; have hO1 := HQ.out.2.2.2.2.1.keeps HQ.out.2.1 hF1; have hO0 := HQ.out.2.2.2.1.keeps HQ.out.2.1 hF1; have hpt := own_put hO1 h1 HM'.out.1 (by omega) pp.1 HYp.out.2.1 y p ll c hq; rw [← HYp.out.1] at hpt; obtain ⟨w9, hup, hO9, hS9, hF9⟩ := hpt; have HI2 : Hid (CaI X F xs W3 r0 d M m (B6 + 1) g o w9 (i + 1)) := ⟨⟨g2, r1, vs ++ [y], by rw [List.length_append, HQ.out.1]; rfl, hS9, (HQ.out.2.2.1.trans hF1.no).trans hF9, hO0.keepsE h1 hF9 (by show ¬ M = B6 + 1; exact HM'.out.2), by rw [zip_snoc _ vs pp.1 y (by rw [HQ.out.1]; exact HYp.out.2.2), List.reverse_append]; exact hO9, HQ.out.2.2.2.2.2, by rw [HE2.out, zR hx]; congr 1; funext vs'; simp⟩⟩; have t1 := HRd.out w1 r1 h1; have t6 := z_ (i := 0) (HB6.out w1 r1 (HQ.out.2.2.1.trans hF1.no)).1 rfl; clear h1 hf hx hq hF1 hO1 hO0 hO9 hS9 hF9))
    all_goals
     go_wp2
     exact ⟨⟨i + 1, by omega, by go_num, HI2⟩, by simp [intOf]; omega⟩
   ·obtain rfl : i = nu := by omega
    have HE2 : Hid (evA X.fs g d o (chain xs) r0.s = .ok (vs, r'.s)) := by
     show _ = _
     rw [HE.out, List.drop_of_length_le (by rw [← HNu.out.2.1]; exact Nat.le_refl _)]
     show gb (evA X.fs (g2 + 1) d o ce) _ r'.s = _
     rw [ea_0]
     show Except.ok (vs ++ [], r'.s) = _
     rw [List.append_nil]
    have hN := (zW ((zW HNe.out).2 vs r'.s HE2.out)).1
    have HCl := rcall_any HP.out (HF9.out.body g (Nat.le_refl _)) HF9.out.ent q9 np cp wr r' d (B6 + 1) i 3000000 ((F.ps.map (·.1)).zip vs).reverse q1 q4 HM'.out.1 (by have := q1.few; omega) (by omega) hN
    have HCl' : Hid (Calls Tryz.prog 30 #[ptr X.P, .agg #[.slice q9 np cp, .func (.func kb) #[] cb], .map (some (B6 + 1))] wr (CP X wr r' d (B6 + 1) (qT X.fs g d ((F.ps.map (·.1)).zip vs).reverse F.body r'.s))) := HCl
    obtain ⟨c1, -, -⟩ := HOld.out wr r' q1
    have e60 := z_ (i := 0) (HB6.out wr r' q2).1 rfl
    have e61 := z_ (i := 1) (HB6.out wr r' q2).1 rfl
    clear hvs q1 q2 q3 q4 q5 q6 hN HCl
    go_wp2_with (go_at_call 30; fail)
    refine HCl'.out.mono ?_
    rintro e w1 ⟨r1, h1, hf, ⟨n1, hx, rfl⟩ | ⟨k9, out, hx, he9⟩⟩
    rotate_left
    ·obtain ⟨_, older, rfl, _⟩ := id he9
     refine ⟨rfl, ?_⟩
     rw [← HG.out, zR HE2.out, qR hx]
     exact ⟨r1, h1, fz_in (fz_new HFz3.out (HQ.out.2.2.1.trans hf) (by have := HM'.out; have := HL9.out; simp; omega)), .inr ⟨k9, out, rfl, he9⟩⟩
    have HF1 : Hid (St X.w0 X.P X.fv w1 r1 d ∧ Fz X.P NoE (w.alloc R0) r0 w1 r1) := ⟨h1, fz_new HFz3.out (HQ.out.2.2.1.trans hf) (by have := HM'.out; have := HL9.out; simp; omega)⟩
    have HX1 : Hid (qT X.fs g d ((F.ps.map (·.1)).zip vs).reverse F.body r'.s = .ok (n1, r1.s)) := hx
    have hk := (qE HS.out HF1.out.2).1
    clear h1 hf hx
    go_wp2_with (go_at_call 196; fail)
    refine (qd _ _).mono ?_
    rintro e w2 ⟨rfl, hb2⟩
    have hk2 := blk_on hb2 hk
    have b1 := z_ (i := 0) hk2 rfl
    have b2 := z_ (i := 1) hk2 rfl
    have b3 := zb hk2 0
    have b4 := zb hk2 1
    have HF2 : Hid (St X.w0 X.P X.fv w2 r1 d ∧ Fz X.P NoE (w.alloc R0) r0 w2 r1) := ⟨HF1.out.1.below hb2, HF1.out.2.trans (Fz.below hb2)⟩
    clear hk hb2 hk2
    go_wp2
    obtain ⟨e1, e2⟩ := ep_fin (y := (n1, none)) (p := none) (l := 0) (c := 0) HS.out HF2.out.1 HF2.out.2 rfl
    refine bodyPost_ret (res248 Tryz.results229 _ _ w.heap.size _ _ rfl e1) rfl ?_
    rw [← HG.out, zR HE2.out, zR HX1.out]
    exact e2
end Go.Proofs.YtnfhpdbbfejioaaGreatDoor
