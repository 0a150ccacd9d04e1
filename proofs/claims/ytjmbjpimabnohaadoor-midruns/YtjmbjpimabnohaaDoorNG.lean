/- Package mid, walked: reckon at Load. -/
import Derived.Test.YtjmbjpimabnohaaDoorNF
import Derived.Deep.RegionWith
import Derived.Deep.RegionHeld3
namespace Go.Proofs.YtjmbjpimabnohaaDoor.Mid
set_option linter.unusedVariables false
set_option linter.unusedSimpArgs false
open Go Go.RowKit

/-- A number of an array: beyond it, or there. -/
theorem item_q {w0 : World} {P : Nat} {fv : Value} {w : World} {r : Rs} {d : Nat} (hs : Sm w0 P fv w r d) {x : Option Nat} {p : Option Addr} {l c : Nat} (hq : QvS r.ab x (.slice p l c)) (i : Int) :
    ((i < 0 ∨ ((arrOf r.s x).length : Int) ≤ i) ∧ ∀ W, Calls Tryd.prog 43 #[.slice p l c, .int .i64 i] W fun e w' => e = endE 3 ∧ w' = W) ∨
    (∃ b n j, x = some j ∧ r.ab[j]? = some (b, n) ∧ ¬ (i < 0 ∨ ((arrOf r.s x).length : Int) ≤ i) ∧ 0 ≤ i ∧ i < n ∧ n ≤ 40 ∧ w.cell? ⟨b, i.toNat, none⟩ = some (.int .i64 ((arrOf r.s x).getD i.toNat 0)) ∧ w.frozen? ⟨b, i.toNat, none⟩ = false ∧ ∀ W, Calls Tryd.prog 43 #[.slice p l c, .int .i64 i] W fun e w' => e = .returned (.pointer (some ⟨b, i.toNat, none⟩)) ∧ w' = W) := by
  have hl := arr_len hs hq
  cases x with
  | none =>
    injection hq with h1 h2 h3
    subst h1 h2 h3
    left
    refine ⟨?_, fun W => item_nil i W⟩
    show i < 0 ∨ (0 : Int) ≤ i
    omega
  | some j =>
    obtain ⟨b, n, g1, g2⟩ := hq
    injection g2 with g2 g3 g4
    subst g2 g3 g4
    obtain ⟨ll, a1, a2, a3, a4⟩ := hs.arr j b c g1
    have e : arrOf r.s (some j) = ll := by show r.s.hp.getD j [] = ll; rw [List.getD_eq_getElem?_getD, a1]; rfl
    by_cases h : i < 0 ∨ (c : Int) ≤ i
    · left
      refine ⟨by rw [hl]; exact h, fun W => (item_any b c c i W a3).mono ?_⟩
      rintro e w' ⟨⟨_, rfl⟩ | ⟨k1, k2, rfl⟩, rfl⟩
      · exact ⟨rfl, rfl⟩
      · omega
    · right
      refine ⟨b, c, j, rfl, g1, by rw [hl]; exact h, by omega, by omega, a3, ?_, row_free a4 _, fun W => (item_any b c c i W a3).mono ?_⟩
      · rw [e]
        refine cell_at a4 ?_
        have : i.toNat < ll.length := by omega
        simp [ints, List.getElem?_eq_getElem this]
      · rintro e w' ⟨⟨k1, rfl⟩ | ⟨k1, k2, rfl⟩, rfl⟩
        · omega
        · exact ⟨rfl, rfl⟩
theorem it_er {q : Option Nat} {i : Int} {s : Sg} (h : i < 0 ∨ ((arrOf s q).length : Int) ≤ i) : itemG q i s = .error (3, s.out) := if_pos h
theorem it_ok {q : Option Nat} {i : Int} {s : Sg} (h : ¬ (i < 0 ∨ ((arrOf s q).length : Int) ≤ i)) : itemG q i s = .ok ((arrOf s q).getD i.toNat 0, s) := if_neg h
set_option maxRecDepth 100000 in
set_option maxHeartbeats 2000000 in
theorem rk_load {X : Mx} (hX : MxOk X) {s : Ms} {b o : Nat} (hst : StepAt X.wc b o s) (hc : s.code = 11) {g d ob : Nat} {w : World} {r : Rs} {own : List Vl} (hs : Sm X.w0 X.P X.fv w r d) (ho : OwM w ob r.ab own) (ha : 0 ≤ s.a ∧ s.a < own.length) (hb : 0 ≤ s.b ∧ s.b < own.length) (hk : own.length ≤ 1000000) :
    Calls Tryd.prog 44 (rkA X b o ob own.length) w (RkP X w r d (reckG X.fs g d s own r.s)) := by
  have c0 := cell_old (A := zv) (hX.cell hs hst.c0)
  have c2 := cell_old (A := zv) (hX.cell hs hst.c2)
  have c3 := cell_old (A := zv) (hX.cell hs hst.c3)
  rw [hc] at c0
  obtain ⟨q, -, o2, o3⟩ := ho.get ha.1 ha.2
  obtain ⟨p, l, c, rfl⟩ := qv_slice o3
  obtain ⟨q', u1, -, -⟩ := ho.get hb.1 hb.2
  have HS : Hid (Sm X.w0 X.P X.fv w r d) := hs
  have HS1 : Hid (Sm X.w0 X.P X.fv (w.alloc zv) r d) := hs.below (al_bel _ _)
  obtain ⟨ia, hia⟩ : ∃ ia : Nat, s.a = ia := ⟨s.a.toNat, by omega⟩
  obtain ⟨ib, hib⟩ : ∃ ib : Nat, s.b = ib := ⟨s.b.toNat, by omega⟩
  obtain ⟨k, hk2⟩ : ∃ k, own.length = k := ⟨_, rfl⟩
  have hlt : ia < k := by omega
  have hlt2 : ib < k := by omega
  obtain ⟨m, hm⟩ : ∃ m, (pl own s.b).1 = m := ⟨_, rfl⟩
  obtain ⟨x, hx⟩ : ∃ x, (pl own s.a).2 = x := ⟨_, rfl⟩
  rw [hx] at o3
  rw [hm] at u1
  rw [hia] at c2 o2
  rw [hib] at c3 u1
  rw [Int.toNat_natCast] at o2 u1
  have o2' := cell_old (A := zv) o2
  have u1' := cell_old (A := zv) u1
  have HE : Hid (reckG X.fs g d s own r.s = (gb (itemG x m) fun n => gp (n, none)) r.s) := by rw [← hx, ← hm]; exact congrFun (rk_11 hc) _
  have hit := item_q HS1.out o3 m
  show Calls Tryd.prog 44 #[ptr X.P, .pointer (some ⟨b, o, none⟩), .slice (some ⟨ob, 0, none⟩) own.length own.length] w _
  generalize hG : RkP X w r d (reckG X.fs g d s own r.s) = G
  have HG : Hid (RkP X w r d (reckG X.fs g d s own r.s) = G) := hG
  rw [hk2]
  rw [hk2] at hk
  clear hs hst hc hX hG ha hb o2 u1 hia hib hk2 ho hm hx o3
  have HC : Hid (∀ W, Calls Tryd.prog 43 #[.slice p l c, .int .i64 m] W fun e w' => (((m < 0 ∨ ((arrOf r.s x).length : Int) ≤ m) ∧ e = endE 3) ∨ (∃ bb im v, (¬ (m < 0 ∨ ((arrOf r.s x).length : Int) ≤ m) ∧ (arrOf r.s x).getD m.toNat 0 = v) ∧ (w.alloc zv).cell? ⟨bb, im, none⟩ = some (.int .i64 v) ∧ e = .returned (.pointer (some ⟨bb, im, none⟩)))) ∧ w' = W) := fun W => by
    rcases hit with ⟨h1, hC⟩ | ⟨bb, n, j, -, -, h1, h2, h3, h4, h5, -, hC⟩
    · refine (hC W).mono ?_
      rintro e w' ⟨rfl, rfl⟩
      exact ⟨.inl ⟨h1, rfl⟩, rfl⟩
    · refine (hC W).mono ?_
      rintro e w' ⟨rfl, rfl⟩
      exact ⟨.inr ⟨bb, m.toNat, _, ⟨h1, rfl⟩, h5, rfl⟩, rfl⟩
  have HEnd : Hid (∀ W, Below (w.alloc zv).heap.size (w.alloc zv) W → (m < 0 ∨ ((arrOf r.s x).length : Int) ≤ m) → G (endE 3) W) := fun W hb h1 => by
    rw [← HG.out, HE.out, gb_e (it_er h1)]
    exact rk_end (HS1.out.below hb) (Fz.below hb)
  have HFin : Hid (∀ v A W, (¬ (m < 0 ∨ ((arrOf r.s x).length : Int) ≤ m) ∧ (arrOf r.s x).getD m.toNat 0 = v) → Below (w.alloc A).heap.size (w.alloc A) W → G (.returned (vlA v (.slice none 0 0))) W) := fun v A W h1 hb => by
    rw [← HG.out, HE.out, gb_o (it_ok h1.1), h1.2]
    have hbb := (al_bel w A).trans (hb.mono (al_bel w A).size)
    exact ⟨r, d, HS.out.below hbb, Fz.below hbb, .inl ⟨(v, none), none, 0, 0, rfl, rfl, rfl, rfl⟩⟩
  clear hit
  go_enter Tryd.func44, Tryd.ntmps44
  go_wp2_with fail
  go_region_with (go_at_call 43; refine (HC.out _).mono ?_; rintro e w3 ⟨⟨h1, rfl⟩ | ⟨bb, im, v, h1, h5, rfl⟩, rfl⟩; exact ⟨rfl, HEnd.out _ (by repeat first | exact Below.refl _ _ | refine Below.drew ?_) h1⟩; have H1 : Hid (¬ (m < 0 ∨ ((arrOf r.s x).length : Int) ≤ m) ∧ (arrOf r.s x).getD m.toNat 0 = v) := h1; clear h1)
  all_goals
    go_wp2
    refine bodyPost_ret (v := vlA v (.slice none 0 0)) (by simp [results, Tryd.results44, go_sem]) rfl ?_
    exact HFin.out v _ _ H1.out (by repeat first | exact Below.refl _ _ | refine Below.drew ?_)
end Go.Proofs.YtjmbjpimabnohaaDoor.Mid
