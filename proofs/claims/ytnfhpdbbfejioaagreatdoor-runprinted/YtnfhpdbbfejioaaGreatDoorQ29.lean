/- GS GT GU GV GW -/
import Derived.Test.YtnfhpdbbfejioaaGreatDoorQ28
namespace Go.Proofs.YtnfhpdbbfejioaaGreatDoor
set_option linter.unusedVariables false
set_option linter.unusedSimpArgs false
set_option maxRecDepth 100000
set_option maxHeartbeats 4000000
open Go Go.RowKit
theorem es_3 (fs : By → Option Fun) (g d : Nat) (o : Own) (a : Int) (nm : By) (ix v th el : Tr) : evS fs (g + 1) d o (st 3 a nm ix v th el) = gb (evE fs g d o ix) fun i => gb (evE fs g d o v) fun n => gb (putG (own1 o nm).2 i.1 n.1) fun _ => gp (none, o) := by rw [evS_1]; simp
def Rs.put1 (r : Rs) (i j : Nat) (n : Int) : Rs := { r with s := { r.s with hp := r.s.hp.modify i (fun l => l.set j n) } }
theorem St.putA {w0 : World} {P : Nat} {fv : Value} {w : World} {r : Rs} {d : Nat} (h : St w0 P fv w r d) {i b k j : Nat} {n : Int} (hi : r.ab[i]? = some (b, k)) : St w0 P fv (w.setCell ⟨b, j, none⟩ (.int .i64 n)) (r.put1 i j n) d ∧ Fz P NoE w r (w.setCell ⟨b, j, none⟩ (.int .i64 n)) (r.put1 i j n) := by
 have hmem : b ∈ r.ab.map (·.1) := List.mem_map.2 ⟨(b, k), List.mem_of_getElem? hi, rfl⟩
 have ho : ∀ x, x ≠ b → (w.setCell ⟨b, j, none⟩ (.int .i64 n)).heap[x]? = w.heap[x]? := fun x hx => heap_setCell_other _ _ _ _ hx
 have hsz : (w.setCell ⟨b, j, none⟩ (.int .i64 n)).heap.size = w.heap.size := by simp
 have hlo := h.lo b hmem
 refine ⟨⟨h.lt, by rw [hsz]; exact h.le, fun x h1 h2 => ?_, ?_, h.inp, own_at h.out (fun x hx => ho x (fun e => h.apart x hx (e ▸ hmem))), h.apart, ?_, fun x y m hx => ?_, h.lo, h.nd, h.few, h.told, h.deep⟩, ⟨rfl, rfl, rfl, by rw [hsz]; exact Nat.le_refl _, fun x _ hx _ => ho x (fun e => hx (.inr (.inl (e ▸ hmem)))), List.prefix_rfl, fun x h1 h2 => absurd h1 h2⟩⟩
 ·rw [ho x (by omega)]; exact h.kp x h1 h2
 ·rw [ho P (h.ne hmem).symm]; exact h.pb
 ·show r.ab.length = (r.s.hp.modify i _).length
  rw [List.length_modify]
  exact h.alen
 ·have hx' : r.ab[x]? = some (y, m) := hx
  obtain ⟨l, a1, a2, a3, a4⟩ := h.arr x y m hx'
  show ∃ l, (r.s.hp.modify i _)[x]? = some l ∧ _
  by_cases e : i = x
  ·subst e
   rw [hi] at hx'
   injection hx' with hx'
   injection hx' with e1 e2
   subst e1
   subst e2
   refine ⟨l.set j n, by rw [List.getElem?_modify_eq, a1]; rfl, by rw [List.length_set]; exact a2, a3, ?_⟩
   rw [heap_setCell_same _ _ _ _ _ _ a4]
   congr 2
   apply Array.ext'
   simp [ints]
  ·refine ⟨l, by rw [List.getElem?_modify_ne _ _ e]; exact a1, a2, a3, ?_⟩
   have hne : y ≠ b := fun e2 => by
    have q1 : (r.ab.map (·.1))[i]? = some b := by rw [List.getElem?_map, hi]; rfl
    have q2 : (r.ab.map (·.1))[x]? = some y := by rw [List.getElem?_map, hx']; rfl
    rw [e2] at q2
    exact e ((List.getElem?_inj (List.getElem?_eq_some_iff.1 q1).1 h.nd).1 (q1.trans q2.symm))
   rw [ho y hne]
   exact a4
theorem put_er {q : Option Nat} {i n : Int} {s : Sg} (h : i < 0 ∨ ((arrOf s q).length : Int) ≤ i) : putG q i n s = .error (3, s.out) := if_pos h
theorem put_ok {q : Option Nat} {i n : Int} {s : Sg} (h : ¬ (i < 0 ∨ ((arrOf s q).length : Int) ≤ i)) : putG q i n s = .ok ((), { s with hp := s.hp.modify (q.getD 0) (fun l => l.set i.toNat n) }) := if_neg h
theorem go_put3 {X : Cx} (hP : PbO X) {g bi bv bs : Nat} {a : Int} {nm : By} {ix v th el : Tr} {vi vv : Value} (hnm : nm.length ≤ 1000000) (hbs : StmtC X.w0 bs nm) (hbi : X.w0.heap[bi]? = some (.cells #[vi] 245)) (hb : X.w0.heap[bv]? = some (.cells #[vv] 245)) (hi : GoE X g ix vi) (hv : GoE X g v vv) : GoS X (g + 1) (st 3 a nm ix v th el) (.func (.func 185) #[] #[ptr bi, ptr bv, ptr bs]) := by
 intro w r0 d M m K o hs ho hM hK hK7 hne
 rw [es_3] at hne ⊢
 obtain ⟨b, of, hb1, cs, hb2, hcs⟩ := hbs
 obtain ⟨ys, hys⟩ : ∃ ys : ByteArray, ys = ⟨nm.toArray⟩ := ⟨_, rfl⟩
 have HCells : Hid (∀ W r, St X.w0 X.P X.fv W r d → W.cell? ⟨bs, 0, none⟩ = some (.pointer (some ⟨b, of, none⟩)) ∧ W.cell? ⟨b, of + 2, none⟩ = some (.string ys) ∧ W.cell? ⟨bv, 0, none⟩ = some vv) := fun W r h => ⟨z_ (i := 0) (h.old hb1 hP (by decide)) rfl, by rw [hys]; exact z_ (h.old hb2 hP (by decide)) hcs, z_ (i := 0) (h.old hb hP (by decide)) rfl⟩
 have c1 : w.cell? ⟨bi, 0, none⟩ = some vi := z_ (i := 0) (hs.old hbi hP (by decide)) rfl
 have HS : Hid (St X.w0 X.P X.fv w r0 d) := hs
 have HO : Hid (OwS w M m r0.ab o) := ho
 have HK : Hid (m + 1 + r0.s.fuel ≤ K ∧ K ≤ 10000000) := ⟨hK, hK7⟩
 have HM : Hid (X.w0.heap.size ≤ M ∧ nm.length ≤ 1000000) := ⟨hM, hnm⟩
 have HYs : Hid (ys = ⟨nm.toArray⟩) := hys
 have HNe : Hid (∀ y s1, evE X.fs g d o ix r0.s = .ok (y, s1) → ∀ out, (gb (evE X.fs g d o v) fun n => gb (putG (own1 o nm).2 y.1 n.1) fun _ => gp ((none, o) : Option Int × Own)) s1 ≠ .error (99, out)) := (zW hne).2
 have HV : Hid (GoE X g v vv) := hv
 have HFl : Hid (∀ t s y s1, evE X.fs g d o t s = .ok (y, s1) → s1.fuel ≤ s.fuel) := fun t s y s1 h => (ji X.fs g).1 d o t s y s1 h
 obtain ⟨k, cap, rfl, hen, hc⟩ := hi w r0 d M m o hs ho (zW hne).1
 have HC : Hid (Calls Tryz.prog k (#[.map (some M)] ++ cap) w (EP X w r0 d (evE X.fs g d o ix r0.s))) := hc
 have hen' : ∀ (args : Array Value) (w : World), (callFunc k args).run Tryz.prog w = .ok (.enter k args) w := hen
 refine ⟨185, _, rfl, ent185, ?_⟩
 show Calls Tryz.prog 185 #[.map (some M), ptr bi, ptr bv, ptr bs] w _
 generalize hG : SP X w r0 d M K (gb (evE X.fs g d o ix) (fun i => gb (evE X.fs g d o v) fun n => gb (putG (own1 o nm).2 i.1 n.1) fun _ => gp (none, o)) r0.s) = G
 have HG : Hid (SP X w r0 d M K (gb (evE X.fs g d o ix) (fun i => gb (evE X.fs g d o v) fun n => gb (putG (own1 o nm).2 i.1 n.1) fun _ => gp (none, o)) r0.s) = G) := hG
 clear hs ho hne hb hG hv hi hc hen hK hK7 hP hb1 hb2 hcs hM hnm hys hbi
 have hf0 := fv0
 have hf1 := fv1
 go_enter Tryz.func185, Tryz.ntmps185
 go_wp2
 refine HC.out.mono ?_
 rintro e w1 ⟨r1, h1, hf, ⟨y, p, ll, c, hx, rfl, hq⟩ | ⟨k9, out, hx, he9⟩⟩
 rotate_left
 ·obtain ⟨_, older, rfl, _⟩ := id he9
  refine ⟨rfl, ?_⟩
  rw [← HG.out, qR hx]
  exact sp_err h1 hf.no he9
 have HF : Hid (St X.w0 X.P X.fv w1 r1 d ∧ Fz X.P NoE w r0 w1 r1) := ⟨h1, hf⟩
 have HX : Hid (evE X.fs g d o ix r0.s = .ok (y, r1.s)) := hx
 have HW : Hid (OwS w1 M m r1.ab o ∧ m + 1 + r1.s.fuel ≤ K) := ow_on HS.out HO.out hf (HFl.out _ _ _ _ hx) HK.out.1
 obtain ⟨-, -, c2⟩ := HCells.out w1 r1 h1
 have hN := HNe.out y r1.s hx
 obtain ⟨k2, cap2, rfl, hen2, hc2⟩ := HV.out w1 r1 d M m o h1 HW.out.1 (zW hN).1
 have HC2 : Hid (Calls Tryz.prog k2 (#[.map (some M)] ++ cap2) w1 (EP X w1 r1 d (evE X.fs g d o v r1.s))) := hc2
 have hen'' : ∀ (args : Array Value) (w : World), (callFunc k2 args).run Tryz.prog w = .ok (.enter k2 args) w := hen2
 clear h1 hf hx hq hN hc2 hen2 hen' c1
 go_wp2
 refine HC2.out.mono ?_
 rintro e w2 ⟨r2, h1, hf, ⟨z, p2, l2, c3, hx, rfl, hq⟩ | ⟨k9, out, hx, he9⟩⟩
 rotate_left
 ·obtain ⟨_, older, rfl, _⟩ := id he9
  refine ⟨rfl, ?_⟩
  rw [← HG.out, zR HX.out, qR hx]
  exact sp_err h1 (HF.out.2.trans hf).no he9
 have HF2 : Hid (St X.w0 X.P X.fv w2 r2 d ∧ Fz X.P NoE w r0 w2 r2) := ⟨h1, HF.out.2.trans hf⟩
 have HX2 : Hid (evE X.fs g d o v r1.s = .ok (z, r2.s)) := hx
 have HW2 : Hid (OwS w2 M m r2.ab o ∧ m + 1 + r2.s.fuel ≤ K) := ow_on HF.out.1 HW.out.1 hf (HFl.out _ _ _ _ hx) HW.out.2
 obtain ⟨q1, q2, -⟩ := HCells.out w2 r2 h1
 obtain ⟨pq, lq, cq, hlk, hqv⟩ := own_look HW2.out.1 nm HM.out.2
 rw [← HYs.out] at hlk
 obtain ⟨u1, u2, hu⟩ : ∃ u1 u2, own1 o nm = (u1, u2) := ⟨_, _, rfl⟩
 rw [hu] at hlk hqv
 have HU : Hid (own1 o nm = (u1, u2)) := hu
 have HQv : Hid (QvS r2.ab u2 (.slice pq lq cq)) := hqv
 clear h1 hf hx hq c2 hen'' hqv hu
 have HEr : Hid (∀ w', w' = w2 → putG (own1 o nm).2 y.1 z.1 r2.s = .error (3, r2.s.out) → SP X w r0 d M K (gb (evE X.fs g d o ix) (fun i => gb (evE X.fs g d o v) fun n => gb (putG (own1 o nm).2 i.1 n.1) fun _ => gp (none, o)) r0.s) (endE 3) w') := fun w' e1 e2 => by
  subst e1
  rw [zR HX.out, zR HX2.out, qR e2]
  exact sp_end HF2.out.1 HF2.out.2.no
 cases u2 with
 | none =>
  have hq := HQv.out
  injection hq with e1 e2 e3
  subst e1 e2 e3
  go_wp2_with (go_at_call 186; fail)
  refine (item_nil _ _).mono ?_
  rintro e w3 ⟨rfl, rfl⟩
  refine ⟨rfl, ?_⟩
  rw [← HG.out]
  exact HEr.out _ rfl (put_er (by rw [HU.out]; show y.1 < 0 ∨ (0 : Int) ≤ y.1; omega))
 | some i =>
  obtain ⟨bb, nb, hi, he⟩ := HQv.out
  injection he with e1 e2 e3
  subst e1 e2 e3
  obtain ⟨li, a1, a2, a3, a4⟩ := HF2.out.1.arr i bb cq hi
  have HA : Hid (arrOf r2.s (some i) = li) := by
   show r2.s.hp.getD i [] = li
   rw [List.getD_eq_getElem?_getD, a1]
   rfl
  have HLn : Hid (li.length = cq) := a2
  have HI : Hid (r2.ab[i]? = some (bb, cq)) := hi
  have HB4 : Hid (w2.heap[bb]? = some (.cells (ints li).toArray 2)) := a4
  clear hi a1 a2 a4
  go_wp2_with (go_at_call 186; fail)
  refine (item_any _ _ _ _ _ a3).mono ?_
  rintro e w3 ⟨⟨hn, rfl⟩ | ⟨hn1, hn2, rfl⟩, rfl⟩
  ·refine ⟨rfl, ?_⟩
   rw [← HG.out]
   exact HEr.out _ rfl (put_er (by rw [HU.out, HA.out, HLn.out]; exact hn))
  ·have hj : y.1.toNat < li.length := by have := HLn.out; omega
   obtain ⟨lv, hlv⟩ : ∃ lv : Int, w3.cell? ⟨bb, y.1.toNat, none⟩ = some (.int .i64 lv) := ⟨li[y.1.toNat], z_ HB4.out (by simp [ints, hj])⟩
   have fz := zb HB4.out y.1.toNat
   have HOk : Hid (putG (own1 o nm).2 y.1 z.1 r2.s = .ok ((), (r2.put1 i y.1.toNat z.1).s)) := put_ok (by rw [HU.out, HA.out, HLn.out]; omega) |>.trans (by rw [HU.out]; rfl)
   obtain ⟨jz, hjz⟩ : ∃ jz, jz = y.1.toNat := ⟨_, rfl⟩
   rw [← hjz] at hlv fz HOk ⊢
   clear hn1 hn2 hj hjz
   go_wp2
   go_end0
   obtain ⟨a1, a2⟩ := HF2.out.1.putA (j := jz) (n := z.1) HI.out
   rw [← HG.out, zR HX.out, zR HX2.out, zR HOk.out]
   exact ⟨_, a1, (HF2.out.2.trans a2).no, .inl ⟨o, m, rfl, rfl, HW2.out.1.keeps HF2.out.1 a2, by have := HW2.out.2; show m + r2.s.fuel ≤ K; omega⟩⟩
theorem es_4 (fs : By → Option Fun) (g d : Nat) (o : Own) (a : Int) (nm : By) (ix v th el : Tr) : evS fs (g + 1) d o (st 4 a nm ix v th el) = gb (evE fs g d o v) fun x => if x.1 ≠ 0 then evB fs g d o th else evB fs g d o el := by rw [evS_1]; simp
theorem SP.after {X : Cx} {w w1 : World} {r r1 : Rs} {d M K : Nat} {x : Except (Int × List Int) ((Option Int × Own) × Sg)} {e : Ending} {w' : World} (hf : Fz X.P (fun b => b = M) w r w1 r1) (h : SP X w1 r1 d M K x e w') : SP X w r d M K x e w' := by
 obtain ⟨r', h1, h2, h3⟩ := h
 exact ⟨r', h1, hf.trans h2, h3⟩
theorem go_if4 {X : Cx} (hP : PbO X) {g bv bt be : Nat} {a : Int} {nm : By} {ix v th el : Tr} {vv vt ve : Value} (hb : X.w0.heap[bv]? = some (.cells #[vv] 245)) (hbt : X.w0.heap[bt]? = some (.cells #[vt] 67)) (hbe : X.w0.heap[be]? = some (.cells #[ve] 67)) (hv : GoE X g v vv) (ht : GoB X g th vt) (he : GoB X g el ve) : GoS X (g + 1) (st 4 a nm ix v th el) (.func (.func 187) #[] #[ptr bv, ptr bt, ptr be]) := by
 intro w r0 d M m K o hs ho hM hK hK7 hne
 rw [es_4] at hne ⊢
 have HCells : Hid (∀ W r, St X.w0 X.P X.fv W r d → W.cell? ⟨bt, 0, none⟩ = some vt ∧ W.cell? ⟨be, 0, none⟩ = some ve) := fun W r h => ⟨z_ (i := 0) (h.old hbt hP (by decide)) rfl, z_ (i := 0) (h.old hbe hP (by decide)) rfl⟩
 have c1 : w.cell? ⟨bv, 0, none⟩ = some vv := z_ (i := 0) (hs.old hb hP (by decide)) rfl
 have HS : Hid (St X.w0 X.P X.fv w r0 d) := hs
 have HO : Hid (OwS w M m r0.ab o) := ho
 have HK : Hid (m + 1 + r0.s.fuel ≤ K ∧ K ≤ 10000000 ∧ X.w0.heap.size ≤ M) := ⟨hK, hK7, hM⟩
 have HNe : Hid (∀ y s1, evE X.fs g d o v r0.s = .ok (y, s1) → ∀ out, (if y.1 ≠ 0 then evB X.fs g d o th else evB X.fs g d o el) s1 ≠ .error (99, out)) := (zW hne).2
 have HT : Hid (GoB X g th vt ∧ GoB X g el ve) := ⟨ht, he⟩
 have HFl : Hid (∀ t s y s1, evE X.fs g d o t s = .ok (y, s1) → s1.fuel ≤ s.fuel) := fun t s y s1 h => (ji X.fs g).1 d o t s y s1 h
 obtain ⟨k, cap, rfl, hen, hc⟩ := hv w r0 d M m o hs ho (zW hne).1
 have HC : Hid (Calls Tryz.prog k (#[.map (some M)] ++ cap) w (EP X w r0 d (evE X.fs g d o v r0.s))) := hc
 have hen' : ∀ (args : Array Value) (w : World), (callFunc k args).run Tryz.prog w = .ok (.enter k args) w := hen
 refine ⟨187, _, rfl, ent187, ?_⟩
 show Calls Tryz.prog 187 #[.map (some M), ptr bv, ptr bt, ptr be] w _
 generalize hG : SP X w r0 d M K (gb (evE X.fs g d o v) (fun x => if x.1 ≠ 0 then evB X.fs g d o th else evB X.fs g d o el) r0.s) = G
 have HG : Hid (SP X w r0 d M K (gb (evE X.fs g d o v) (fun x => if x.1 ≠ 0 then evB X.fs g d o th else evB X.fs g d o el) r0.s) = G) := hG
 clear hs ho hne hb hG hv hc hen hK hK7 hP hM hbt hbe ht he
 have hf0 := fv0
 go_enter Tryz.func187, Tryz.ntmps187
 go_wp2
 refine HC.out.mono ?_
 rintro e w1 ⟨r1, h1, hf, ⟨y, p, ll, c, hx, rfl, hq⟩ | ⟨k9, out, hx, he9⟩⟩
 rotate_left
 ·obtain ⟨_, older, rfl, _⟩ := id he9
  refine ⟨rfl, ?_⟩
  rw [← HG.out, qR hx]
  exact sp_err h1 hf.no he9
 have HF : Hid (St X.w0 X.P X.fv w1 r1 d ∧ Fz X.P NoE w r0 w1 r1) := ⟨h1, hf⟩
 have HX : Hid (evE X.fs g d o v r0.s = .ok (y, r1.s)) := hx
 have HW : Hid (OwS w1 M m r1.ab o ∧ m + 1 + r1.s.fuel ≤ K) := ow_on HS.out HO.out hf (HFl.out _ _ _ _ hx) HK.out.1
 obtain ⟨c2, c3⟩ := HCells.out w1 r1 h1
 have hN := HNe.out y r1.s hx
 obtain ⟨n1, y2⟩ := y
 clear h1 hf hx hq hen' c1
 by_cases h0 : n1 = 0
 ·have hd : (n1 != 0) = false := by simp [h0]
  have H0 : Hid (¬ n1 ≠ 0) := by show ¬ _; simpa using h0
  rw [if_neg H0.out] at hN
  obtain ⟨k2, cap2, rfl, hen2, hc2⟩ := HT.out.2 w1 r1 d M m K o HF.out.1 HW.out.1 HK.out.2.2 (by have := HW.out.2; omega) HK.out.2.1 hN
  have HC2 : Hid (Calls Tryz.prog k2 (#[.map (some M)] ++ cap2) w1 (SP X w1 r1 d M K (evB X.fs g d o el r1.s))) := hc2
  have hen'' : ∀ (args : Array Value) (w : World), (callFunc k2 args).run Tryz.prog w = .ok (.enter k2 args) w := hen2
  have HFin : Hid (∀ e w2, SP X w1 r1 d M K (evB X.fs g d o el r1.s) e w2 → G e w2) := fun e w2 h => by
   rw [← HG.out, zR HX.out, if_neg H0.out]
   exact SP.after HF.out.2.no h
  clear hN hc2 hen2 h0
  go_wp2
  refine HC2.out.mono ?_
  intro e w2 hsp
  have hG2 := HFin.out e w2 hsp
  obtain ⟨r2, -, -, ⟨o', n', -, rfl, -, -⟩ | ⟨z, o', -, rfl⟩ | ⟨k9, out, -, -, older, rfl, -⟩⟩ := hsp
  ·have HG2 : Hid (G (.returned (.tuple #[])) w2) := hG2
   clear hG2
   go_wp2
   go_end0
   exact HG2.out
  ·exact ⟨rfl, hG2⟩
  ·exact ⟨rfl, hG2⟩
 ·have hd : (n1 != 0) = true := by simpa using h0
  have H0 : Hid (n1 ≠ 0) := h0
  rw [if_pos H0.out] at hN
  obtain ⟨k2, cap2, rfl, hen2, hc2⟩ := HT.out.1 w1 r1 d M m K o HF.out.1 HW.out.1 HK.out.2.2 (by have := HW.out.2; omega) HK.out.2.1 hN
  have HC2 : Hid (Calls Tryz.prog k2 (#[.map (some M)] ++ cap2) w1 (SP X w1 r1 d M K (evB X.fs g d o th r1.s))) := hc2
  have hen'' : ∀ (args : Array Value) (w : World), (callFunc k2 args).run Tryz.prog w = .ok (.enter k2 args) w := hen2
  have HFin : Hid (∀ e w2, SP X w1 r1 d M K (evB X.fs g d o th r1.s) e w2 → G e w2) := fun e w2 h => by
   rw [← HG.out, zR HX.out, if_pos H0.out]
   exact SP.after HF.out.2.no h
  clear hN hc2 hen2 h0
  go_wp2
  refine HC2.out.mono ?_
  intro e w2 hsp
  have hG2 := HFin.out e w2 hsp
  obtain ⟨r2, -, -, ⟨o', n', -, rfl, -, -⟩ | ⟨z, o', -, rfl⟩ | ⟨k9, out, -, -, older, rfl, -⟩⟩ := hsp
  ·have HG2 : Hid (G (.returned (.tuple #[])) w2) := hG2
   clear hG2
   go_wp2
   go_end0
   exact HG2.out
  ·exact ⟨rfl, hG2⟩
  ·exact ⟨rfl, hG2⟩
theorem eb_0 (fs : By → Option Fun) (g d : Nat) (o : Own) : evB fs (g + 1) d o ce = gp (none, o) := by rw [evB_1]
theorem eb_1 (fs : By → Option Fun) (g d : Nat) (o : Own) (x t : Tr) : evB fs (g + 1) d o (cc x t) = gb pay fun _ => gb (evS fs g d o x) fun r => if r.1.isSome then gp r else evB fs g d r.2 t := by rw [evB_1]
theorem eb_z (fs : By → Option Fun) (d : Nat) (o : Own) (t : Tr) (s : Sg) : evB fs 0 d o t s = .error (99, s.out) := rfl
theorem pay_no {s : Sg} (h : s.fuel = 0) : pay s = .error (6, s.out) := if_pos h
theorem pay_yes {s : Sg} (h : s.fuel ≠ 0) : pay s = .ok ((), { s with fuel := s.fuel - 1 }) := if_neg h
theorem dropc {xs : List Tr} {i : Nat} {x : Tr} (h : xs[i]? = some x) : chain (xs.drop i) = cc x (chain (xs.drop (i + 1))) := by
 obtain ⟨h1, rfl⟩ := List.getElem?_eq_some_iff.1 h
 rw [List.drop_eq_getElem_cons h1]
 rfl
structure BlI (X : Cx) (xs : List Tr) (w : World) (r0 : Rs) (d M K g : Nat) (o : Own) (wr : World) (i : Nat) : Prop where
 at' : ∃ (g' : Nat) (r' : Rs) (o' : Own) (n' : Nat), St X.w0 X.P X.fv wr r' d ∧ Fz X.P (fun b => b = M) w r0 wr r' ∧ OwS wr M n' r'.ab o' ∧ n' + r'.s.fuel ≤ K ∧ g' ≤ g ∧ evB X.fs g d o (chain xs) r0.s = evB X.fs g' d o' (chain (xs.drop i)) r'.s
theorem go_block {X : Cx} (hP : PbO X) {g ba bp gr : Nat} {xs : List Tr} {ts : List Value} (hba : X.w0.heap[ba]? = some (.cells #[.slice (some ⟨gr, 0, none⟩) ts.length ts.length] 184)) (hgr : X.w0.heap[gr]? = some (.cells ts.toArray 67)) (hbp : X.w0.heap[bp]? = some (.cells #[ptr X.P] 57)) (hlen : ts.length = xs.length) (h6 : xs.length ≤ 1000000) (hform : ∀ (i : Nat) (u : Value), ts[i]? = some u → ∃ kf cf, u = .func (.func kf) #[] cf)
  (hS : ∀ (i : Nat) (x : Tr) (u : Value), xs[i]? = some x → ts[i]? = some u → ∀ g', g' ≤ g → GoS X g' x u) : GoB X g (chain xs) (.func (.func 87) #[] #[ptr ba, ptr bp]) := by
 intro w r0 d M m K o hs ho hM hK hK7 hne
 have HCells : Hid (∀ W r, St X.w0 X.P X.fv W r d → W.cell? ⟨bp, 0, none⟩ = some (ptr X.P) ∧ W.heap[gr]? = some (.cells ts.toArray 67)) := fun W r h => ⟨z_ (i := 0) (h.old hbp hP (by decide)) rfl, h.old hgr hP (by decide)⟩
 have c1 : w.cell? ⟨ba, 0, none⟩ = some (.slice (some ⟨gr, 0, none⟩) ts.length ts.length) := z_ (i := 0) (hs.old hba hP (by decide)) rfl
 have HS : Hid (St X.w0 X.P X.fv w r0 d) := hs
 have HO : Hid (OwS w M m r0.ab o) := ho
 have HK : Hid (m + r0.s.fuel ≤ K ∧ K ≤ 10000000 ∧ X.w0.heap.size ≤ M) := ⟨hK, hK7, hM⟩
 have HNe : Hid (∀ out, evB X.fs g d o (chain xs) r0.s ≠ .error (99, out)) := hne
 have HSt : Hid (∀ (i : Nat) (x : Tr) (u : Value), xs[i]? = some x → ts[i]? = some u → ∀ g', g' ≤ g → GoS X g' x u) := hS
 have HFm : Hid (∀ (i : Nat) (u : Value), ts[i]? = some u → ∃ kf cf, u = .func (.func kf) #[] cf) := hform
 obtain ⟨n, hn⟩ : ∃ n, n = ts.length := ⟨_, rfl⟩
 have HN : Hid (n = ts.length ∧ n = xs.length) := ⟨hn, by rw [hn]; exact hlen⟩
 have hn6 : n ≤ 1000000 := by rw [hn, hlen]; exact h6
 rw [← hn] at c1
 refine ⟨87, _, rfl, ent87, ?_⟩
 show Calls Tryz.prog 87 #[.map (some M), ptr ba, ptr bp] w _
 generalize hG : SP X w r0 d M K (evB X.fs g d o (chain xs) r0.s) = G
 have HG : Hid (SP X w r0 d M K (evB X.fs g d o (chain xs) r0.s) = G) := hG
 clear hs ho hne hba hgr hbp hG hK hK7 hP hM hS hlen hn h6 hform
 go_enter Tryz.func87, Tryz.ntmps87
 go_wp2_with fail
 go_loopw [8] (fun v wr => ∃ i : Nat, i ≤ n ∧ v = .int .i64 i ∧ Hid (BlI X xs w r0 d M K g o wr i)) (fun v _ => n - (intOf v).toNat)
 case atStart => exact ⟨0, Nat.zero_le _, rfl, ⟨g, r0, o, m, HS.out, Fz.refl _ _ _ _, HO.out, HK.out.1, Nat.le_refl _, rfl⟩⟩
 case round =>
  obtain ⟨i, hin, rfl, HI⟩ := hrel
  obtain ⟨g', r', o', n', q1, q2, q3, q4, q5, q6⟩ := HI.out.at'
  have HQ : Hid (St X.w0 X.P X.fv wr r' d ∧ Fz X.P (fun b => b = M) w r0 wr r' ∧ OwS wr M n' r'.ab o' ∧ n' + r'.s.fuel ≤ K ∧ g' ≤ g) := ⟨q1, q2, q3, q4, q5⟩
  have HE : Hid (evB X.fs g d o (chain xs) r0.s = evB X.fs g' d o' (chain (xs.drop i)) r'.s) := q6
  obtain ⟨g2, hg2⟩ : ∃ g2, g' = g2 + 1 := by
   cases g' with
   | zero => exact absurd q6 (fun e => HNe.out _ (e.trans (eb_z _ _ _ _ _)))
   | succ g2 => exact ⟨g2, rfl⟩
  by_cases hlt : i < n
  ·have hix : i < xs.length := by rw [← HN.out.2]; exact hlt
   have hit : i < ts.length := by rw [← HN.out.1]; exact hlt
   obtain ⟨u, hu⟩ : ∃ u, ts[i]? = some u := ⟨ts[i], List.getElem?_eq_getElem hit⟩
   obtain ⟨x, hx⟩ : ∃ x, xs[i]? = some x := ⟨xs[i], List.getElem?_eq_getElem hix⟩
   have hgo := HSt.out i x u hx hu g2 (by omega)
   obtain ⟨cp, cgr⟩ := HCells.out wr r' q1
   have cu : wr.cell? ⟨gr, i, none⟩ = some u := z_ cgr (by simpa using hu)
   have HE2 : Hid (evB X.fs g d o (chain xs) r0.s = gb pay (fun _ => gb (evS X.fs g2 d o' x) fun r => if r.1.isSome then gp r else evB X.fs g2 d r.2 (chain (xs.drop (i + 1)))) r'.s) := by
    show _ = _
    rw [HE.out, hg2, dropc hx, eb_1]
   have HGo : Hid (GoS X g2 x u ∧ g2 ≤ g) := ⟨hgo, by omega⟩
   have HFl : Hid (∀ s y s1, evS X.fs g2 d o' x s = .ok (y, s1) → s1.fuel ≤ s.fuel) := fun s y s1 h => (ji X.fs g2).2.2.2.1 d o' x s y s1 h
   obtain ⟨kf, cf, huf⟩ := HFm.out i u hu
   subst huf
   clear q1 q2 q3 q4 q5 q6 hgo cgr hu hix hit hx hg2 c1
   go_wp2_with (go_at_call 88; fail)
   refine (pay_any X wr r' d HQ.out.1).mono ?_
   rintro e w1 (⟨h0, rfl, rfl⟩ | ⟨h0, rfl, h1, hf⟩)
   ·refine ⟨rfl, ?_⟩
    rw [← HG.out, HE2.out, qR (pay_no h0)]
    exact sp_end HQ.out.1 HQ.out.2.1
   ·have HE3 : Hid (evB X.fs g d o (chain xs) r0.s = gb (evS X.fs g2 d o' x) (fun r => if r.1.isSome then gp r else evB X.fs g2 d r.2 (chain (xs.drop (i + 1)))) r'.fuel1.s) := by
     show _ = _
     rw [HE2.out, zR (pay_yes h0)]
     rfl
    have hN := zW (fun out => by rw [← HE3.out]; exact HNe.out out)
    have hO1 : OwS w1 M n' r'.fuel1.ab o' := HQ.out.2.2.1.keeps HQ.out.1 hf
    obtain ⟨k, cap, ek, hen, hc⟩ := HGo.out.1 w1 r'.fuel1 d M n' K o' h1 hO1 HK.out.2.2 (by have := HQ.out.2.2.2.1; show n' + 1 + (r'.s.fuel - 1) ≤ K; omega) HK.out.2.1 hN.1
    injection ek with ek _ ek2
    injection ek with ek
    subst ek
    subst ek2
    have HC : Hid (Calls Tryz.prog kf (#[.map (some M)] ++ cf) w1 (SP X w1 r'.fuel1 d M K (evS X.fs g2 d o' x r'.fuel1.s))) := hc
    have hen' : ∀ (args : Array Value) (w : World), (callFunc kf args).run Tryz.prog w = .ok (.enter kf args) w := hen
    have HF1 : Hid (Fz X.P (fun b => b = M) w r0 w1 r'.fuel1) := HQ.out.2.1.trans hf.no
    clear h1 hf hN hO1 hc hen h0
    go_wp2
    refine HC.out.mono ?_
    rintro e w2 ⟨r2, h2, hf2, ⟨o2, n2, hx2, rfl, ho2, hk2⟩ | ⟨z, o2, hx2, rfl⟩ | ⟨k9, out, hx2, he9⟩⟩
    ·have HI2 : Hid (BlI X xs w r0 d M K g o w2 (i + 1)) := by
      refine ⟨⟨g2, r2, o2, n2, h2, HF1.out.trans hf2, ho2, hk2, HGo.out.2, ?_⟩⟩
      rw [HE3.out, zR hx2]
      rfl
     clear h2 hf2 hx2 ho2 hk2
     go_wp2
     exact ⟨⟨i + 1, by omega, by go_num, HI2⟩, by simp [intOf]; omega⟩
    ·refine ⟨rfl, ?_⟩
     rw [← HG.out, HE3.out, zR hx2]
     exact ⟨r2, h2, HF1.out.trans hf2, .inr (.inl ⟨z, o2, rfl, rfl⟩)⟩
    ·obtain ⟨_, older, rfl, _⟩ := id he9
     refine ⟨rfl, ?_⟩
     rw [← HG.out, HE3.out, qR hx2]
     exact sp_err h2 (HF1.out.trans hf2) he9
  ·obtain rfl : i = n := by omega
   have HE2 : Hid (evB X.fs g d o (chain xs) r0.s = .ok ((none, o'), r'.s)) := by
    show _ = _
    rw [HE.out, hg2, List.drop_of_length_le (by rw [← HN.out.2]; exact Nat.le_refl _)]
    show evB X.fs (g2 + 1) d o' ce r'.s = _
    rw [eb_0]
    rfl
   clear q1 q2 q3 q4 q5 q6 hg2 c1
   go_wp2
   go_end0
   rw [← HG.out, HE2.out]
   exact ⟨r', HQ.out.1, HQ.out.2.1, .inl ⟨o', n', rfl, rfl, HQ.out.2.2.1, HQ.out.2.2.2.1⟩⟩
theorem es_5 (fs : By → Option Fun) (g d : Nat) (o : Own) (a : Int) (nm : By) (ix v th el : Tr) : evS fs (g + 1) d o (st 5 a nm ix v th el) = evW fs g d o v th := by rw [evS_1]; simp
theorem ew_1 (fs : By → Option Fun) (g d : Nat) (o : Own) (v th : Tr) : evW fs (g + 1) d o v th = gb (evE fs g d o v) fun x => if x.1 = 0 then gp (none, o) else gb (evB fs g d o th) fun r => if r.1.isSome then gp r else gb pay fun _ => evW fs g d r.2 v th := by rw [evW_1]
theorem ew_z (fs : By → Option Fun) (d : Nat) (o : Own) (v th : Tr) (s : Sg) : evW fs 0 d o v th s = .error (99, s.out) := rfl
def fuelW (P : Nat) (w : World) : Nat := match w.cell? ⟨P, 3, none⟩ with | some (.int _ n) => n.toNat | _ => 0
theorem fuelW_is {w0 : World} {P : Nat} {fv : Value} {w : World} {r : Rs} {d : Nat} (h : St w0 P fv w r d) : fuelW P w = r.s.fuel := by
 have c3 : w.cell? ⟨P, 3, none⟩ = some (.int .i64 (r.s.fuel : Int)) := z_ (i := 3) h.pb rfl
 unfold fuelW
 rw [c3]
 simp
structure WhI (X : Cx) (v th : Tr) (w : World) (r0 : Rs) (d M K g : Nat) (o : Own) (wr : World) : Prop where
 at' : ∃ (g' : Nat) (r' : Rs) (o' : Own) (n' : Nat), St X.w0 X.P X.fv wr r' d ∧ Fz X.P (fun b => b = M) w r0 wr r' ∧ OwS wr M n' r'.ab o' ∧ n' + 1 + r'.s.fuel ≤ K ∧ g' ≤ g ∧ evW X.fs g d o v th r0.s = evW X.fs g' d o' v th r'.s
theorem go_while5 {X : Cx} (hP : PbO X) {g bv bt bp : Nat} {a : Int} {nm : By} {ix v th el : Tr} {kv kt : Nat} {cv ct : Array Value} (hb : X.w0.heap[bv]? = some (.cells #[.func (.func kv) #[] cv] 245)) (hbt : X.w0.heap[bt]? = some (.cells #[.func (.func kt) #[] ct] 67)) (hbp : X.w0.heap[bp]? = some (.cells #[ptr X.P] 57)) (hv : ∀ g', g' ≤ g → GoE X g' v (.func (.func kv) #[] cv)) (ht : ∀ g', g' ≤ g → GoB X g' th (.func (.func kt) #[] ct)) (ev : Ent kv) (et : Ent kt) : GoS X (g + 1) (st 5 a nm ix v th el) (.func (.func 188) #[] #[ptr bv, ptr bt, ptr bp]) := by
 intro w r0 d M m K o hs ho hM hK hK7 hne
 rw [es_5] at hne ⊢
 have HCells : Hid (∀ W r, St X.w0 X.P X.fv W r d → W.cell? ⟨bv, 0, none⟩ = some (.func (.func kv) #[] cv) ∧ W.cell? ⟨bt, 0, none⟩ = some (.func (.func kt) #[] ct) ∧ W.cell? ⟨bp, 0, none⟩ = some (ptr X.P)) := fun W r h => ⟨z_ (i := 0) (h.old hb hP (by decide)) rfl, z_ (i := 0) (h.old hbt hP (by decide)) rfl, z_ (i := 0) (h.old hbp hP (by decide)) rfl⟩
 have HS : Hid (St X.w0 X.P X.fv w r0 d) := hs
 have HO : Hid (OwS w M m r0.ab o) := ho
 have HK : Hid (m + 1 + r0.s.fuel ≤ K ∧ K ≤ 10000000 ∧ X.w0.heap.size ≤ M) := ⟨hK, hK7, hM⟩
 have HNe : Hid (∀ out, evW X.fs g d o v th r0.s ≠ .error (99, out)) := hne
 have HV : Hid (∀ g', g' ≤ g → GoE X g' v (.func (.func kv) #[] cv)) := hv
 have HT : Hid (∀ g', g' ≤ g → GoB X g' th (.func (.func kt) #[] ct)) := ht
 have hen : ∀ (args : Array Value) (w : World), (callFunc kv args).run Tryz.prog w = .ok (.enter kv args) w := ev
 have hen' : ∀ (args : Array Value) (w : World), (callFunc kt args).run Tryz.prog w = .ok (.enter kt args) w := et
 refine ⟨188, _, rfl, ent188, ?_⟩
 show Calls Tryz.prog 188 #[.map (some M), ptr bv, ptr bt, ptr bp] w _
 generalize hG : SP X w r0 d M K (evW X.fs g d o v th r0.s) = G
 have HG : Hid (SP X w r0 d M K (evW X.fs g d o v th r0.s) = G) := hG
 clear hs ho hne hb hG hv hK hK7 hP hM hbt hbp ht ev et
 have hf0 := fv0
 go_enter Tryz.func188, Tryz.ntmps188
 go_wp2_with fail
 go_loopw [] (fun wr => Hid (WhI X v th w r0 d M K g o wr)) (fun wr => fuelW X.P wr)
 case atStart => exact ⟨⟨g, r0, o, m, HS.out, Fz.refl _ _ _ _, HO.out, HK.out.1, Nat.le_refl _, rfl⟩⟩
 case round =>
  obtain ⟨g', r', o', n', q1, q2, q3, q4, q5, q6⟩ := hrel.out.at'
  have HQ : Hid (St X.w0 X.P X.fv wr r' d ∧ Fz X.P (fun b => b = M) w r0 wr r' ∧ OwS wr M n' r'.ab o' ∧ n' + 1 + r'.s.fuel ≤ K) := ⟨q1, q2, q3, q4⟩
  obtain ⟨g2, hg2⟩ : ∃ g2, g' = g2 + 1 := by
   cases g' with
   | zero => exact absurd q6 (fun e => HNe.out _ (e.trans (ew_z _ _ _ _ _ _)))
   | succ g2 => exact ⟨g2, rfl⟩
  subst hg2
  rw [ew_1] at q6
  have HE : Hid (evW X.fs g d o v th r0.s = gb (evE X.fs g2 d o' v) (fun x => if x.1 = 0 then gp (none, o') else gb (evB X.fs g2 d o' th) fun r => if r.1.isSome then gp r else gb pay fun _ => evW X.fs g2 d r.2 v th) r'.s) := q6
  have hN := zW (fun out => by rw [← HE.out]; exact HNe.out out)
  obtain ⟨k3, cap3, e3, _, hc⟩ := HV.out g2 (by omega) wr r' d M n' o' q1 q3 hN.1
  injection e3 with e3 _ e4
  injection e3 with e3
  subst e3
  subst e4
  have HC : Hid (Calls Tryz.prog kv (#[.map (some M)] ++ cv) wr (EP X wr r' d (evE X.fs g2 d o' v r'.s))) := hc
  have HN2 : Hid (∀ y s1, evE X.fs g2 d o' v r'.s = .ok (y, s1) → ∀ out, (if y.1 = 0 then gp (none, o') else gb (evB X.fs g2 d o' th) fun r => if r.1.isSome then gp r else gb pay fun _ => evW X.fs g2 d r.2 v th) s1 ≠ .error (99, out)) := hN.2
  have HG2 : Hid (g2 ≤ g) := by show _ ≤ _; omega
  have HFlE : Hid (∀ y s1, evE X.fs g2 d o' v r'.s = .ok (y, s1) → s1.fuel ≤ r'.s.fuel) := fun y s1 h => (ji X.fs g2).1 d o' v r'.s y s1 h
  have HFu : Hid (fuelW X.P wr = r'.s.fuel) := fuelW_is q1
  obtain ⟨c1, -, -⟩ := HCells.out wr r' q1
  clear hrel q1 q2 q3 q4 q5 q6 hN hc
  go_wp2
  refine HC.out.mono ?_
  rintro e w1 ⟨r1, h1, hf, ⟨y, p, ll, c, hx, rfl, hq⟩ | ⟨k9, out, hx, he9⟩⟩
  rotate_left
  ·obtain ⟨_, older, rfl, _⟩ := id he9
   refine ⟨rfl, ?_⟩
   rw [← HG.out, HE.out, qR hx]
   exact sp_err h1 (HQ.out.2.1.trans hf.no) he9
  have HF : Hid (St X.w0 X.P X.fv w1 r1 d ∧ Fz X.P (fun b => b = M) w r0 w1 r1) := ⟨h1, HQ.out.2.1.trans hf.no⟩
  have HX : Hid (evE X.fs g2 d o' v r'.s = .ok (y, r1.s)) := hx
  have HW : Hid (OwS w1 M n' r1.ab o' ∧ n' + 1 + r1.s.fuel ≤ K) := ow_on HQ.out.1 HQ.out.2.2.1 hf (HFlE.out _ _ hx) HQ.out.2.2.2
  have hN := HN2.out y r1.s hx
  have HF0 : Hid (r1.s.fuel ≤ r'.s.fuel) := HFlE.out _ _ hx
  obtain ⟨-, c2, c3⟩ := HCells.out w1 r1 h1
  obtain ⟨n1, y2⟩ := y
  clear h1 hf hx hq c1
  by_cases h0 : n1 = 0
  ·have hd : (n1 != 0) = false := by simp [h0]
   have H0 : Hid (n1 = 0) := h0
   clear hN h0
   go_wp2
   go_end0
   rw [← HG.out, HE.out, zR HX.out, if_pos H0.out]
   exact ⟨r1, HF.out.1, HF.out.2, .inl ⟨o', n', rfl, rfl, HW.out.1, by have := HW.out.2; omega⟩⟩
  ·have hd : (n1 != 0) = true := by simpa using h0
   have H0 : Hid (¬ n1 = 0) := h0
   rw [if_neg h0] at hN
   have hN' := zW hN
   obtain ⟨k3, cap3, e3, _, hc⟩ := HT.out g2 HG2.out w1 r1 d M n' K o' HF.out.1 HW.out.1 HK.out.2.2 (by have := HW.out.2; omega) HK.out.2.1 hN'.1
   injection e3 with e3 _ e4
   injection e3 with e3
   subst e3
   subst e4
   have HC2 : Hid (Calls Tryz.prog kt (#[.map (some M)] ++ ct) w1 (SP X w1 r1 d M K (evB X.fs g2 d o' th r1.s))) := hc
   have HN3 : Hid (∀ y s1, evB X.fs g2 d o' th r1.s = .ok (y, s1) → ∀ out, (if y.1.isSome then gp y else gb pay fun _ => evW X.fs g2 d y.2 v th) s1 ≠ .error (99, out)) := hN'.2
   have HFlB : Hid (∀ y s1, evB X.fs g2 d o' th r1.s = .ok (y, s1) → s1.fuel ≤ r1.s.fuel) := fun y s1 h => (ji X.fs g2).2.2.1 d o' th r1.s y s1 h
   clear hN hN' hc h0
   go_wp2
   refine HC2.out.mono ?_
   rintro e w2 ⟨r2, h2, hf2, ⟨o2, n2, hx2, rfl, ho2, hk2⟩ | ⟨z, o2, hx2, rfl⟩ | ⟨k9, out, hx2, he9⟩⟩
   rotate_left
   ·refine ⟨rfl, ?_⟩
    rw [← HG.out, HE.out, zR HX.out, if_neg H0.out, zR hx2]
    exact ⟨r2, h2, HF.out.2.trans hf2, .inr (.inl ⟨z, o2, rfl, rfl⟩)⟩
   ·obtain ⟨_, older, rfl, _⟩ := id he9
    refine ⟨rfl, ?_⟩
    rw [← HG.out, HE.out, zR HX.out, if_neg H0.out, qR hx2]
    exact sp_err h2 (HF.out.2.trans hf2) he9
   have HF2 : Hid (St X.w0 X.P X.fv w2 r2 d ∧ Fz X.P (fun b => b = M) w r0 w2 r2 ∧ OwS w2 M n2 r2.ab o2 ∧ n2 + r2.s.fuel ≤ K) := ⟨h2, HF.out.2.trans hf2, ho2, hk2⟩
   have HX2 : Hid (evB X.fs g2 d o' th r1.s = .ok ((none, o2), r2.s)) := hx2
   have HF20 : Hid (r2.s.fuel ≤ r1.s.fuel) := HFlB.out _ _ hx2
   obtain ⟨-, -, c4⟩ := HCells.out w2 r2 h2
   clear h2 hf2 hx2 ho2 hk2 c2 c3
   go_wp2_with (go_at_call 88; fail)
   refine (pay_any X w2 r2 d HF2.out.1).mono ?_
   rintro e w3 (⟨h0, rfl, rfl⟩ | ⟨h0, rfl, h1, hf⟩)
   ·refine ⟨rfl, ?_⟩
    rw [← HG.out, HE.out, zR HX.out, if_neg H0.out, zR HX2.out]
    show SP X w r0 d M K (gb pay _ r2.s) _ _
    rw [qR (pay_no h0)]
    exact sp_end HF2.out.1 HF2.out.2.1
   ·have HI2 : Hid (WhI X v th w r0 d M K g o w3) := by
     refine ⟨⟨g2, r2.fuel1, o2, n2, h1, HF2.out.2.1.trans hf.no, HF2.out.2.2.1.keeps HF2.out.1 hf, ?_, HG2.out, ?_⟩⟩
     ·have := HF2.out.2.2.2
      show n2 + 1 + (r2.s.fuel - 1) ≤ K
      omega
     ·rw [HE.out, zR HX.out, if_neg H0.out, zR HX2.out]
      show gb pay _ r2.s = _
      rw [zR (pay_yes h0)]
      rfl
    have HMe : Hid (fuelW X.P w3 < fuelW X.P wr) := by
     show _ < _
     rw [fuelW_is h1, HFu.out]
     have := HF20.out
     have := HF0.out
     show r2.s.fuel - 1 < _
     omega
    clear h1 hf h0
    go_wp2
    exact ⟨HI2, HMe.out⟩
theorem as_told (v : Value) (w : World) : (Instr.typeAssert (.iface 129 v) 20 129 true).run Tryz.prog w = .ok (.tuple #[v, .bool true]) w := by kernel_rfl
theorem as_none (v : Value) (w : World) : (Instr.typeAssert (.iface 61 v) 20 129 true).run Tryz.prog w = .ok (.tuple #[.int .i64 0, .bool false]) w := by kernel_rfl
theorem ne_told (v : Value) (w : World) : (binOp .eql 20 (.iface 129 v) .nilIface).run Tryz.prog w = .ok (.bool false) w := by kernel_rfl
theorem ne_end (v : Value) (w : World) : (binOp .eql 20 (.iface 61 v) .nilIface).run Tryz.prog w = .ok (.bool false) w := by kernel_rfl
theorem fr24 (a b : Value) : (#[a, b] : Array Value) ++ Array.replicate (24 - (#[a, b] : Array Value).size) undef = #[a, b, undef, undef, undef, undef, undef, undef, undef, undef, undef, undef, undef, undef, undef, undef, undef, undef, undef, undef, undef, undef, undef, undef] := by kernel_rfl
theorem def_idle (B1 B3 P : Nat) (d : Nat) (hd : d < 1000) (w : World) (h1 : w.cell? ⟨B1, 0, none⟩ = some (ptr P)) (h2 : w.cell? ⟨P, 4, none⟩ = some (.int .i64 ((d + 1 : Nat) : Int))) (f2 : w.frozen? ⟨P, 4, none⟩ = false) :
  CallsD Tryz.prog 55 #[ptr B1, ptr B3] .returning w fun e u' w' => e = .returned (.tuple #[]) ∧ u' = .returning ∧ w' = w.setCell ⟨P, 4, none⟩ (.int .i64 (d : Int)) := by
 have e1 := eq_nil
 refine callsD_of_wpS Tryz.func55 rfl fun c₀ cs hu => ?_
 apply wpS_seq
 refine wpS_of_wp ?_
 rw [Tryz.ntmps55, fr24]
 go_wp2
 simp only [Exit.thenS]
 apply wpS_seq
 apply wpS_region
 simp [wpOpsS, go_sem, recoverD, hu, Exit.thenS]
 apply wpS_seq
 apply wpS_seq
 apply wpS_region
 simp [wpOpsS, go_sem, Exit.thenS, e1]
 refine wpS_cond (t := true) (by simp [Act.eval]) ?_
 simp only [if_true]
 refine wpS_of_wp (wp_ret ?_)
 cases c₀
 simp_all [bodyPostS, results, Tryz.results55, Exit.thenS]
theorem def_told (B1 B3 P : Nat) (d : Nat) (hd : d < 1000) (w : World) (z : Int) (x3 : Value) (h3 : (w.setCell ⟨P, 4, none⟩ (.int .i64 (d : Int))).cell? ⟨B3, 0, none⟩ = some x3) (f3 : (w.setCell ⟨P, 4, none⟩ (.int .i64 (d : Int))).frozen? ⟨B3, 0, none⟩ = false) (h1 : w.cell? ⟨B1, 0, none⟩ = some (ptr P)) (h2 : w.cell? ⟨P, 4, none⟩ = some (.int .i64 ((d + 1 : Nat) : Int))) (f2 : w.frozen? ⟨P, 4, none⟩ = false) :
  CallsD Tryz.prog 55 #[ptr B1, ptr B3] (.panicking [{ v := .iface 129 (.int .i64 z), recovered := false }]) w fun e u' w' => e = .returned (.tuple #[]) ∧ u' = .panicking [{ v := .iface 129 (.int .i64 z), recovered := true }] ∧ w' = (w.setCell ⟨P, 4, none⟩ (.int .i64 (d : Int))).setCell ⟨B3, 0, none⟩ (.int .i64 z) := by
 have e1 := ne_told
 have e2 := as_told
 refine callsD_of_wpS Tryz.func55 rfl fun c₀ cs hu => ?_
 apply wpS_seq
 refine wpS_of_wp ?_
 rw [Tryz.ntmps55, fr24]
 go_wp2
 simp only [Exit.thenS]
 apply wpS_seq
 apply wpS_region
 simp [wpOpsS, go_sem, recoverD, hu, Exit.thenS]
 apply wpS_seq
 apply wpS_seq
 apply wpS_region
 simp [wpOpsS, go_sem, Exit.thenS, e1]
 refine wpS_cond (t := false) (by simp [Act.eval]) ?_
 simp only [Bool.false_eq_true, if_false]
 refine wpS_of_wp (wp_skip ?_)
 simp only [Exit.thenS]
 apply wpS_seq
 apply wpS_region
 simp [wpOpsS, go_sem, Exit.thenS, e2]
 apply wpS_seq
 apply wpS_seq
 apply wpS_region
 simp [wpOpsS, go_sem, Exit.thenS]
 refine wpS_cond (t := false) (by simp [Act.eval]) ?_
 simp only [Bool.false_eq_true, if_false]
 refine wpS_of_wp (wp_skip ?_)
 simp only [Exit.thenS]
 apply wpS_region
 simp [wpOpsS, go_sem, h3, f3, bodyPostS, results, Tryz.results55]
theorem def_end (B1 B3 P : Nat) (d : Nat) (hd : d < 1000) (w : World) (z : Int) (older : List PanicEntry) (h1 : w.cell? ⟨B1, 0, none⟩ = some (ptr P)) (h2 : w.cell? ⟨P, 4, none⟩ = some (.int .i64 ((d + 1 : Nat) : Int))) (f2 : w.frozen? ⟨P, 4, none⟩ = false) :
  CallsD Tryz.prog 55 #[ptr B1, ptr B3] (.panicking ({ v := .iface 61 (.int .i64 z), recovered := false } :: older)) w fun e u' w' => e = .panicked [{ v := .iface 61 (.int .i64 z), recovered := false }] ∧ u' = .panicking ({ v := .iface 61 (.int .i64 z), recovered := true } :: older) ∧ w' = w.setCell ⟨P, 4, none⟩ (.int .i64 (d : Int)) := by
 have e1 := ne_end
 have e2 := as_none
 refine callsD_of_wpS Tryz.func55 rfl fun c₀ cs hu => ?_
 apply wpS_seq
 refine wpS_of_wp ?_
 rw [Tryz.ntmps55, fr24]
 go_wp2
 simp only [Exit.thenS]
 apply wpS_seq
 apply wpS_region
 simp [wpOpsS, go_sem, recoverD, hu, Exit.thenS]
 apply wpS_seq
 apply wpS_seq
 apply wpS_region
 simp [wpOpsS, go_sem, Exit.thenS, e1]
 refine wpS_cond (t := false) (by simp [Act.eval]) ?_
 simp only [Bool.false_eq_true, if_false]
 refine wpS_of_wp (wp_skip ?_)
 simp only [Exit.thenS]
 apply wpS_seq
 apply wpS_region
 simp [wpOpsS, go_sem, Exit.thenS, e2]
 apply wpS_seq
 apply wpS_seq
 apply wpS_region
 simp [wpOpsS, go_sem, Exit.thenS]
 refine wpS_cond (t := true) (by simp [Act.eval]) ?_
 simp only [if_true]
 apply wpS_region
 simp [wpOpsS, go_sem, Exit.thenS, bodyPostS, results, Tryz.results55]
def qT (fs : By → Option Fun) (g d : Nat) (o : Own) (body : Tr) : Go1 Int := if 40 ≤ d then gt 5 else gb (evB fs g (d + 1) o body) fun r => gp (r.1.getD 0)
def CP (X : Cx) (w : World) (r : Rs) (d M : Nat) (x : Except (Int × List Int) (Int × Sg)) (e : Ending) (w' : World) : Prop :=
 ∃ r', St X.w0 X.P X.fv w' r' d ∧ Fz X.P (fun b => b = M) w r w' r' ∧ ((∃ n, x = .ok (n, r'.s) ∧ e = .returned (.int .i64 n)) ∨ (∃ k out, x = .error (k, out) ∧ Ends9 r' out k e))
theorem res30 (tmps : Array Value) (W : World) (b1 : Nat) (x : Value) (hp1 : tmps[6]?.getD undef = ptr b1) (h1 : W.cell? ⟨b1, 0, none⟩ = some x) :
  (results Tryz.f30 tmps).run Tryz.prog W = .ok x W := by
 simp [results, Tryz.results30, go_sem, hp1, h1]
theorem call_end {X : Cx} {w : World} {r : Rs} {d M : Nat} {W5 : World} {r5 : Rs} {B1 B3 : Nat} {x : Value} (h : St X.w0 X.P X.fv W5 r5 (d + 1)) (hf : Fz X.P (fun b => b = M) w r W5 r5) (i1 : W5.heap[B1]? = some (.cells #[ptr X.P] 57)) (i3 : W5.heap[B3]? = some (.cells #[x] 2)) (h1 : B1 ≠ X.P) (h3 : B3 ≠ X.P) :
  W5.cell? ⟨B1, 0, none⟩ = some (ptr X.P) ∧ W5.cell? ⟨X.P, 4, none⟩ = some (.int .i64 ((d + 1 : Nat) : Int)) ∧ W5.frozen? ⟨X.P, 4, none⟩ = false ∧ (W5.setCell ⟨X.P, 4, none⟩ (.int .i64 (d : Int))).cell? ⟨B3, 0, none⟩ = some x ∧ St X.w0 X.P X.fv (W5.setCell ⟨X.P, 4, none⟩ (.int .i64 (d : Int))) r5 d ∧ Fz X.P (fun b => b = M) w r (W5.setCell ⟨X.P, 4, none⟩ (.int .i64 (d : Int))) r5 := by
 obtain ⟨s4, fz4⟩ := h.setP (i := 4) (v := .int .i64 (d : Int)) r5 d rfl rfl rfl rfl rfl h.inp h.few (by have := h.deep; omega)
 refine ⟨z_ (i := 0) i1 rfl, z_ (i := 4) h.pb rfl, zb h.pb 4, ?_, s4, hf.trans fz4.no⟩
 refine z_ (i := 0) (cs := #[x]) (t := 2) ?_ rfl
 rw [heap_setCell_other _ _ _ _ (by show B3 ≠ X.P; exact h3)]
 exact i3
theorem set_on1 {w : World} {b : Nat} {x v : Value} {t : TypeId} (h : w.heap[b]? = some (.cells #[x] t)) : (w.setCell ⟨b, 0, none⟩ v).heap[b]? = some (.cells #[v] t) := heap_setCell_same _ _ _ _ _ _ h
theorem rcall_any {X : Cx} (hP : PbO X) {g : Nat} {body : Tr} {kb : Nat} {cb : Array Value} (hB : GoB X g body (.func (.func kb) #[] cb)) (eb : Ent kb) (q : Option Addr) (np cp : Nat) (w : World) (r : Rs) (d M n K : Nat) (o : Own) (hs : St X.w0 X.P X.fv w r d) (ho : OwS w M n r.ab o) (hM : X.w0.heap.size ≤ M) (hK : n + r.s.fuel ≤ K) (hK7 : K ≤ 10000000) (hne : ∀ out, qT X.fs g d o body r.s ≠ .error (99, out)) :
  Calls Tryz.prog 30 #[ptr X.P, .agg #[.slice q np cp, .func (.func kb) #[] cb], .map (some M)] w (CP X w r d M (qT X.fs g d o body r.s)) := by
 have hmf := mkf
 obtain ⟨W3, hW3⟩ : ∃ W3, W3 = ((w.alloc (.cells #[ptr X.P] 57)).alloc (.cells #[.slice q np cp, .func (.func kb) #[] cb] 69)).alloc (.cells #[.int .i64 0] 2) := ⟨_, rfl⟩
 have hb3 : Below w.heap.size w W3 := by rw [hW3]; exact (jo _ _ _).alloc (by simp; omega) _
 have hz3 : W3.heap.size = w.heap.size + 3 := by rw [hW3]; simp
 have k1 : W3.heap[w.heap.size]? = some (.cells #[ptr X.P] 57) := by rw [hW3]; exact zc (al1 _ _ _) _
 have k2 : W3.heap[w.heap.size + 1]? = some (.cells #[.slice q np cp, .func (.func kb) #[] cb] 69) := by rw [hW3]; exact zc (al2 _ _ _) _
 have k3 : W3.heap[w.heap.size + 2]? = some (.cells #[.int .i64 0] 2) := by
  rw [hW3]
  have := heap_alloc_last ((w.alloc (.cells #[ptr X.P] 57)).alloc (.cells #[.slice q np cp, .func (.func kb) #[] cb] 69)) (.cells #[.int .i64 0] 2)
  simpa using this
 have hs3 := hs.below hb3
 have c4 : (((w.alloc (.cells #[ptr X.P] 57)).alloc (.cells #[.slice q np cp, .func (.func kb) #[] cb] 69)).alloc (.cells #[.int .i64 0] 2)).cell? ⟨X.P, 4, none⟩ = some (.int .i64 (d : Int)) := by rw [← hW3]; exact z_ (i := 4) hs3.pb rfl
 have f4 : (((w.alloc (.cells #[ptr X.P] 57)).alloc (.cells #[.slice q np cp, .func (.func kb) #[] cb] 69)).alloc (.cells #[.int .i64 0] 2)).frozen? ⟨X.P, 4, none⟩ = false := by rw [← hW3]; exact zb hs3.pb 4
 have hPl : X.P < w.heap.size := hs.ltP
 have hd40 := hs.deep
 have hMl : M < w.heap.size := by obtain ⟨f, h1, _⟩ := ho; exact h1.lt
 have HS : Hid (St X.w0 X.P X.fv w r d) := hs
 have HS3 : Hid (St X.w0 X.P X.fv W3 r d) := hs3
 have HB3 : Hid (Below w.heap.size w W3) := hb3
 have HZ3 : Hid (W3.heap.size = w.heap.size + 3) := hz3
 have HK1 : Hid (W3.heap[w.heap.size]? = some (.cells #[ptr X.P] 57) ∧ W3.heap[w.heap.size + 1]? = some (.cells #[.slice q np cp, .func (.func kb) #[] cb] 69) ∧ W3.heap[w.heap.size + 2]? = some (.cells #[.int .i64 0] 2)) := ⟨k1, k2, k3⟩
 have HGl : Hid (X.P < w.heap.size ∧ M < w.heap.size ∧ X.w0.heap.size ≤ w.heap.size) := ⟨hPl, hMl, hs.le⟩
 have HNe : Hid (∀ out, qT X.fs g d o body r.s ≠ .error (99, out)) := hne
 have hen : ∀ (args : Array Value) (w : World), (callFunc kb args).run Tryz.prog w = .ok (.enter kb args) w := eb
 generalize hG : CP X w r d M (qT X.fs g d o body r.s) = G
 have HG : Hid (CP X w r d M (qT X.fs g d o body r.s) = G) := hG
 by_cases h40 : 40 ≤ d
 ·have hd : d = 40 := by omega
  have H40 : Hid (40 ≤ d) := h40
  have c4' : (((w.alloc (.cells #[ptr X.P] 57)).alloc (.cells #[.slice q np cp, .func (.func kb) #[] cb] 69)).alloc (.cells #[.int .i64 0] 2)).cell? ⟨X.P, 4, none⟩ = some (.int .i64 40) := by rw [c4, hd]; rfl
  clear hs ho hne hG hb3 hz3 k1 k2 k3 hs3 hM hK hB eb hP hMl c4 hd h40 hd40
  go_enter_defers Tryz.func30, Tryz.ntmps30
  go_wp2_with (go_at_call 54; fail)
  rw [← hW3]
  refine (qh _ _).mono ?_
  rintro e w' ⟨rfl, rfl⟩
  show G _ _
  rw [← HG.out, show qT X.fs g d o body r.s = .error (5, r.s.out) by unfold qT; rw [if_pos H40.out]; rfl]
  exact ⟨r, HS3.out, Fz.below HB3.out, .inr ⟨5, _, rfl, rfl, [], rfl, fun z hz => by cases hz⟩⟩
 ·have H40 : Hid (¬ 40 ≤ d) := h40
  obtain ⟨s4, fz4⟩ := hs3.setP (i := 4) (v := .int .i64 ((d : Int) + 1)) r (d + 1) rfl rfl rfl rfl rfl hs3.inp hs3.few (by omega)
  obtain ⟨W4, hW4⟩ : ∃ W4, W4 = W3.setCell ⟨X.P, 4, none⟩ (.int .i64 ((d : Int) + 1)) := ⟨_, rfl⟩
  rw [← hW4] at s4 fz4
  have hk4 : ∀ b, b ≠ X.P → W4.heap[b]? = W3.heap[b]? := fun b hb => by rw [hW4]; exact heap_setCell_other _ _ _ _ hb
  have j2 : W4.heap[w.heap.size + 1]? = some (.cells #[.slice q np cp, .func (.func kb) #[] cb] 69) := by rw [hk4 _ (by omega)]; exact k2
  have p2 := z_ (i := 1) j2 rfl
  have ho4 : OwS W4 M n r.ab o := (ho.below hb3).keeps hs3 fz4
  have hcg : qT X.fs g d o body = gb (evB X.fs g (d + 1) o body) fun r => gp (r.1.getD 0) := if_neg h40
  rw [hcg] at hne
  obtain ⟨kk, cc', e3, _, hc⟩ := hB W4 r (d + 1) M n K o s4 ho4 hM hK hK7 (zW hne).1
  injection e3 with e3 _ e4
  injection e3 with e3
  subst e3
  subst e4
  have HC : Hid (Calls Tryz.prog kb (#[.map (some M)] ++ cb) W4 (SP X W4 r (d + 1) M K (evB X.fs g (d + 1) o body r.s))) := hc
  have HCG : Hid (qT X.fs g d o body = gb (evB X.fs g (d + 1) o body) fun r => gp (r.1.getD 0)) := hcg
  have HF4 : Hid (Fz X.P (fun b => b = M) w r W4 r) := (Fz.below hb3).trans fz4.no
  have HZ4 : Hid (W4.heap.size = w.heap.size + 3) := by show _ = _; rw [hW4]; simp; exact hz3
  have HJ : Hid (W4.heap[w.heap.size]? = some (.cells #[ptr X.P] 57) ∧ W4.heap[w.heap.size + 2]? = some (.cells #[.int .i64 0] 2)) := ⟨by rw [hk4 _ (by omega)]; exact k1, by rw [hk4 _ (by omega)]; exact k3⟩
  have HBk : Hid (∀ w5 r5, St X.w0 X.P X.fv w5 r5 (d + 1) → Fz X.P (fun b => b = M) W4 r w5 r5 → w5.heap[w.heap.size]? = some (.cells #[ptr X.P] 57) ∧ w5.heap[w.heap.size + 2]? = some (.cells #[.int .i64 0] 2) ∧ ¬ Xs X.P r5 (w.heap.size + 2)) := fun w5 r5 h5 f5 => by
   have x0 := hs.newX (b := w.heap.size) (Nat.le_refl _)
   have x2 := hs.newX (b := w.heap.size + 2) (by omega)
   refine ⟨by rw [f5.blk _ (by rw [HZ4.out]; omega) x0 (by show ¬ _ = M; omega)]; exact HJ.out.1, by rw [f5.blk _ (by rw [HZ4.out]; omega) x2 (by show ¬ _ = M; omega)]; exact HJ.out.2, fun hx => ?_⟩
   have := f5.new _ hx x2
   rw [HZ4.out] at this
   omega
  have hd39 : d < 40 := by omega
  clear hs ho hne hG hb3 hz3 k1 k2 k3 hs3 hM hK hB eb hP hMl s4 fz4 hk4 j2 ho4 hcg hc h40 p2 hd40
  go_enter_defers Tryz.func30, Tryz.ntmps30
  go_wp2
  rw [← hW3, ← hW4]
  refine HC.out.mono ?_
  rintro e w5 ⟨r5, h5, f5, ⟨o5, n5, hx5, rfl, ho5, hk5⟩ | ⟨z, o5, hx5, rfl⟩ | ⟨k9, out, hx5, he9⟩⟩
  ·obtain ⟨j1, j3, jx⟩ := HBk.out w5 r5 h5 f5
   have cB : w5.cell? ⟨w.heap.size + 1 + 1, 0, none⟩ = some (.int .i64 0) := z_ (i := 0) j3 rfl
   have fB : w5.frozen? ⟨w.heap.size + 1 + 1, 0, none⟩ = false := zb j3 0
   have HX5 : Hid (evB X.fs g (d + 1) o body r.s = .ok ((none, o5), r5.s)) := hx5
   obtain ⟨W5, hW5⟩ : ∃ W5, W5 = w5.setCell ⟨w.heap.size + 1 + 1, 0, none⟩ (.int .i64 0) := ⟨_, rfl⟩
   have h5' : St X.w0 X.P X.fv W5 r5 (d + 1) := by rw [hW5]; exact h5.setL jx (by have := HGl.out; omega)
   have i1 : W5.heap[w.heap.size]? = some (.cells #[ptr X.P] 57) := by rw [hW5, heap_setCell_other _ _ _ _ (by show w.heap.size ≠ w.heap.size + 1 + 1; omega)]; exact j1
   have i3 : W5.heap[w.heap.size + 1 + 1]? = some (.cells #[.int .i64 0] 2) := by rw [hW5]; exact set_on1 j3
   have f5' : Fz X.P (fun b => b = M) w r W5 r5 := by rw [hW5]; exact (HF4.out.trans f5).setL (by omega)
   have HFn : Hid (_ ∧ _ ∧ _ ∧ _ ∧ _) := call_end h5' f5' i1 i3 (by have := HGl.out; omega) (by have := HGl.out; omega)
   clear h5 f5 hx5 ho5 hk5 j1 j3 jx h5' i1 i3 f5'
   go_wp2
   rw [← hW5]
   refine leaves_cons (f := 55) (args := #[ptr w.heap.size, ptr (w.heap.size + 1 + 1)]) (by simp) (by simp [go_sem]) ?_
   obtain ⟨a1, a2, a3, a4, a5⟩ := HFn.out
   refine (def_idle w.heap.size (w.heap.size + 1 + 1) X.P d (by omega) W5 a1 a2 a3).mono ?_
   rintro e u' w6 ⟨rfl, rfl, rfl⟩
   refine ⟨_, res30 _ _ (w.heap.size + 1 + 1) _ rfl a4, ?_⟩
   rw [← HG.out, HCG.out, zR HX5.out]
   exact ⟨r5, a5.1, a5.2, .inl ⟨0, rfl, rfl⟩⟩
  ·obtain ⟨j1, j3, jx⟩ := HBk.out w5 r5 h5 f5
   obtain ⟨a1, a2, a3, a4, a5⟩ := call_end h5 (HF4.out.trans f5) j1 j3 (by have := HGl.out; omega) (by have := HGl.out; omega)
   refine leaves_cons (f := 55) (args := #[ptr w.heap.size, ptr (w.heap.size + 1 + 1)]) (by simp) (by simp [go_sem]) ?_
   have j6 : (w5.setCell ⟨X.P, 4, none⟩ (.int .i64 (d : Int))).heap[w.heap.size + 1 + 1]? = some (.cells #[.int .i64 0] 2) := by rw [heap_setCell_other _ _ _ _ (by show w.heap.size + 1 + 1 ≠ X.P; have := HGl.out; omega)]; exact j3
   refine (def_told w.heap.size (w.heap.size + 1 + 1) X.P d (by omega) w5 z _ (z_ (i := 0) j6 rfl) (zb j6 0) a1 a2 a3).mono ?_
   rintro e u' w6 ⟨rfl, rfl, rfl⟩
   refine ⟨_, res30 _ _ (w.heap.size + 1 + 1) _ rfl (z_ (i := 0) (set_on1 j6) rfl), ?_⟩
   rw [← HG.out, HCG.out, zR hx5]
   exact ⟨r5, a5.1.setL jx (by have := HGl.out; omega), a5.2.setL (by omega), .inl ⟨z, rfl, rfl⟩⟩
  ·obtain ⟨j1, j3, jx⟩ := HBk.out w5 r5 h5 f5
   obtain ⟨a1, a2, a3, a4, a5⟩ := call_end h5 (HF4.out.trans f5) j1 j3 (by have := HGl.out; omega) (by have := HGl.out; omega)
   obtain ⟨hout, older, rfl, zJ⟩ := he9
   refine leaves_cons (f := 55) (args := #[ptr w.heap.size, ptr (w.heap.size + 1 + 1)]) (by simp) (by simp [go_sem]) ?_
   refine (def_end w.heap.size (w.heap.size + 1 + 1) X.P d (by omega) w5 k9 older a1 a2 a3).mono ?_
   rintro e u' w6 ⟨rfl, rfl, rfl⟩
   show G _ _
   rw [← HG.out, HCG.out, qR hx5]
   refine ⟨r5, a5.1, a5.2, .inr ⟨k9, out, rfl, hout, _, rfl, fun y hy => ?_⟩⟩
   rcases List.mem_cons.1 hy with rfl | hy
   ·rfl
   ·exact zJ y hy
end Go.Proofs.YtnfhpdbbfejioaaGreatDoor
