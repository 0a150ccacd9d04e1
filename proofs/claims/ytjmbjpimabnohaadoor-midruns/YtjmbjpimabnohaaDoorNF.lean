/- Package mid, walked: reckon at Copy, Two, Load. -/
import Derived.Test.YtjmbjpimabnohaaDoorNE
import Derived.BigQuiet
namespace Go.Proofs.YtjmbjpimabnohaaDoor.Mid
set_option linter.unusedVariables false
set_option linter.unusedSimpArgs false
open Go Go.RowKit

theorem drewN_bel (w : World) (m : Nat) : Below w.heap.size w (w.drewN m) := ⟨rfl, rfl, rfl, Nat.le_refl _, fun _ _ => rfl⟩
theorem qv_slice {ab : List (Nat × Nat)} {x : Option Nat} {q : Value} (h : QvS ab x q) : ∃ p l c, q = .slice p l c := by
  cases x with
  | none => exact ⟨_, _, _, h⟩
  | some i =>
    obtain ⟨b, n, _, h2⟩ := h
    exact ⟨_, _, _, h2⟩
set_option maxRecDepth 100000 in
set_option maxHeartbeats 1000000 in
theorem rk_copy {X : Mx} (hX : MxOk X) {s : Ms} {b o : Nat} (hst : StepAt X.wc b o s) (hc : s.code = 2) {g d ob : Nat} {w : World} {r : Rs} {own : List Vl} (hs : Sm X.w0 X.P X.fv w r d) (ho : OwM w ob r.ab own) (ha : 0 ≤ s.a ∧ s.a < own.length) (hk : own.length ≤ 1000000) :
    Calls Tryd.prog 44 (rkA X b o ob own.length) w (RkP X w r d (reckG X.fs g d s own r.s)) := by
  have c0 := cell_old (A := zv) (hX.cell hs hst.c0)
  have c2 := cell_old (A := zv) (hX.cell hs hst.c2)
  rw [hc] at c0
  obtain ⟨q, o1, o2, o3⟩ := ho.get ha.1 ha.2
  obtain ⟨p, l, c, rfl⟩ := qv_slice o3
  have HS : Hid (Sm X.w0 X.P X.fv w r d) := hs
  obtain ⟨ia, hia⟩ : ∃ ia : Nat, s.a = ia := ⟨s.a.toNat, by omega⟩
  obtain ⟨k, hk2⟩ : ∃ k, own.length = k := ⟨_, rfl⟩
  have hlt : ia < k := by omega
  obtain ⟨n, hn⟩ : ∃ n, (pl own s.a).1 = n := ⟨_, rfl⟩
  have HQ : Hid (QvS r.ab (pl own s.a).2 (.slice p l c)) := o3
  have HN : Hid ((pl own s.a).1 = n) := hn
  rw [hn] at o1
  rw [hia] at c2 o1 o2
  rw [Int.toNat_natCast] at o1 o2
  have o1' := cell_old (A := zv) o1
  have o2' := cell_old (A := zv) o2
  have HE : Hid (reckG X.fs g d s own r.s = .ok (pl own s.a, r.s)) := congrFun (rk_2 hc) _
  show Calls Tryd.prog 44 #[ptr X.P, .pointer (some ⟨b, o, none⟩), .slice (some ⟨ob, 0, none⟩) own.length own.length] w _
  generalize hG : RkP X w r d (reckG X.fs g d s own r.s) = G
  have HG : Hid (RkP X w r d (reckG X.fs g d s own r.s) = G) := hG
  rw [hk2]
  rw [hk2] at hk
  clear hs hst hc hX hG ha o1 o2 o3 hia hk2 ho hn
  go_enter Tryd.func44, Tryd.ntmps44
  go_wp2
  refine bodyPost_ret (v := vlA n (.slice p l c)) (by simp [results, Tryd.results44, go_sem]) rfl ?_
  rw [← HG.out, HE.out]
  exact ⟨r, d, HS.out.below (al_bel _ _), Fz.below (al_bel _ _), .inl ⟨pl own s.a, p, l, c, rfl, rfl, by rw [HN.out], HQ.out⟩⟩
theorem both_er {op : By} {a b : Int} {s : Sg} {k : Int} (h : (bothV op a b).2 = k) (h0 : k ≠ 0) : bothG op a b s = .error (k, s.out) := by
  unfold bothG
  rw [if_pos (by rw [h]; exact h0), h]
  rfl
theorem both_ok {op : By} {a b : Int} {s : Sg} (h : (bothV op a b).2 = 0) : bothG op a b s = .ok ((bothV op a b).1, s) := by
  unfold bothG
  rw [if_neg (by rw [h]; simp)]
  rfl
set_option maxRecDepth 100000 in
set_option maxHeartbeats 2000000 in
theorem rk_two {X : Mx} (hX : MxOk X) {s : Ms} {b o : Nat} (hst : StepAt X.wc b o s) (hc : s.code = 3) {g d ob : Nat} {w : World} {r : Rs} {own : List Vl} (hs : Sm X.w0 X.P X.fv w r d) (ho : OwM w ob r.ab own) (ha : 0 ≤ s.a ∧ s.a < own.length) (hb : 0 ≤ s.b ∧ s.b < own.length) (hk : own.length ≤ 1000000) :
    Calls Tryd.prog 44 (rkA X b o ob own.length) w (RkP X w r d (reckG X.fs g d s own r.s)) := by
  have c0 := cell_old (A := zv) (hX.cell hs hst.c0)
  have c2 := cell_old (A := zv) (hX.cell hs hst.c2)
  have c3 := cell_old (A := zv) (hX.cell hs hst.c3)
  have c6 := cell_old (A := zv) (hX.cell hs hst.c6)
  rw [hc] at c0
  obtain ⟨q, o1, -, -⟩ := ho.get ha.1 ha.2
  obtain ⟨q', u1, -, -⟩ := ho.get hb.1 hb.2
  have HS : Hid (Sm X.w0 X.P X.fv w r d) := hs
  obtain ⟨ia, hia⟩ : ∃ ia : Nat, s.a = ia := ⟨s.a.toNat, by omega⟩
  obtain ⟨ib, hib⟩ : ∃ ib : Nat, s.b = ib := ⟨s.b.toNat, by omega⟩
  obtain ⟨k, hk2⟩ : ∃ k, own.length = k := ⟨_, rfl⟩
  have hlt : ia < k := by omega
  have hlt2 : ib < k := by omega
  obtain ⟨n, hn⟩ : ∃ n, (pl own s.a).1 = n := ⟨_, rfl⟩
  obtain ⟨m, hm⟩ : ∃ m, (pl own s.b).1 = m := ⟨_, rfl⟩
  rw [hn] at o1
  rw [hm] at u1
  rw [hia] at c2 o1
  rw [hib] at c3 u1
  rw [Int.toNat_natCast] at o1 u1
  have o1' := cell_old (A := zv) o1
  have u1' := cell_old (A := zv) u1
  obtain ⟨y, hy⟩ : ∃ y : ByteArray, (⟨s.op.toArray⟩ : ByteArray) = y := ⟨_, rfl⟩
  rw [hy] at c6
  have hyl : y.data.toList = s.op := by rw [← hy]
  obtain ⟨n1, hn1⟩ : ∃ n1, (bothV s.op n m).1 = n1 := ⟨_, rfl⟩
  obtain ⟨n2, hn2⟩ : ∃ n2, (bothV s.op n m).2 = n2 := ⟨_, rfl⟩
  have HB : Hid (∀ W, Calls Tryd.prog 7 #[.string y, .int .i64 n, .int .i64 m] W fun e w' => e = .returned (.tuple #[.int .i64 n1, .int .i64 n2]) ∧ w' = W) := fun W => by
    have := both_any y n m W
    rw [hyl] at this
    refine this.mono ?_
    rintro e w' ⟨rfl, rfl⟩
    exact ⟨by rw [hn1, hn2], rfl⟩
  have HV : Hid ((bothV s.op n m).1 = n1 ∧ (bothV s.op n m).2 = n2) := ⟨hn1, hn2⟩
  have HE : Hid (reckG X.fs g d s own r.s = (gb (bothG s.op n m) fun n => gp (n, none)) r.s) := by rw [← hn, ← hm]; exact congrFun (rk_3 hc) _
  show Calls Tryd.prog 44 #[ptr X.P, .pointer (some ⟨b, o, none⟩), .slice (some ⟨ob, 0, none⟩) own.length own.length] w _
  generalize hG : RkP X w r d (reckG X.fs g d s own r.s) = G
  have HG : Hid (RkP X w r d (reckG X.fs g d s own r.s) = G) := hG
  rw [hk2]
  rw [hk2] at hk
  clear hs hst hc hX hG ha hb o1 u1 hia hib hk2 ho hn hm hy hyl hn1 hn2
  go_enter Tryd.func44, Tryd.ntmps44
  go_wp2_with fail
  go_quiet ((go_at_call 7; exact Calls.quiet_of_same (HB.out _)))
  obtain ⟨W1, hW1⟩ : ∃ W1, W1 = (w.alloc zv).drewN nq := ⟨_, rfl⟩
  have hb1 : Below (w.alloc zv).heap.size (w.alloc zv) W1 := by rw [hW1]; exact drewN_bel _ _
  have HF2 : Hid (Sm X.w0 X.P X.fv W1 r d ∧ Fz X.P NoE (w.alloc zv) r W1 r) := ⟨(HS.out.below (al_bel _ _)).below hb1, Fz.below hb1⟩
  have hk2 := (r0_kept HS.out HF2.out.2).1
  have b1 := cell_at (i := 0) hk2 rfl
  have b2 := cell_at (i := 1) hk2 rfl
  have b3 := row_free hk2 0
  have b4 := row_free hk2 1
  rw [← hW1]
  clear hW1 hb1 hk2 c0 c2 c3 c6 o1' u1'
  by_cases h0 : n2 = 0
  · subst h0
    go_wp2_with (go_at_call 40; fail)
    obtain ⟨e1, e2⟩ := rk_put (y := (n1, none)) (p := none) (l := 0) (c := 0) HS.out HF2.out.1 HF2.out.2 rfl
    refine bodyPost_ret (res179 Tryd.results44 _ _ w.heap.size _ _ rfl e1) rfl ?_
    rw [← HG.out, HE.out, gb_o (both_ok HV.out.2), HV.out.1]
    exact e2
  · have hd : (n2 != 0) = true := by simpa using h0
    have H0 : Hid (n2 ≠ 0) := h0
    clear h0
    go_wp2_with (go_at_call 40; refine (rthrow_any _ _).mono ?_; rintro e w' ⟨rfl, rfl⟩)
    refine ⟨rfl, ?_⟩
    rw [← HG.out, HE.out, gb_e (both_er HV.out.2 H0.out)]
    exact rk_end HF2.out.1 HF2.out.2
end Go.Proofs.YtjmbjpimabnohaaDoor.Mid
