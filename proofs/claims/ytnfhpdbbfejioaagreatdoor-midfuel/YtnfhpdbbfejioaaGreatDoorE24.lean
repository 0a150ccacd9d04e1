/- NF NG NH NI QA -/
import Derived.Test.YtnfhpdbbfejioaaGreatDoorE23
import Derived.Maps.RangeWalk
namespace Go.Proofs.YtnfhpdbbfejioaaGreatDoor.Mid
set_option linter.unusedVariables false
set_option linter.unusedSimpArgs false
set_option maxRecDepth 100000
set_option maxHeartbeats 16000000
open Go Go.RowKit
theorem zD (w : World) (m : Nat) : Below w.heap.size w (w.drewN m) := ⟨rfl, rfl, rfl, Nat.le_refl _, fun _ _ => rfl⟩
theorem qv_slice {ab : List (Nat × Nat)} {x : Option Nat} {q : Value} (h : QvS ab x q) : ∃ p l c, q = .slice p l c := by
  cases x with
  | none => exact ⟨_, _, _, h⟩
  | some i =>
    obtain ⟨b, n, _, h2⟩ := h
    exact ⟨_, _, _, h2⟩
theorem rk_copy {X : Mx} (hX : MxOk X) {s : Ms} {b o : Nat} (hst : StepAt X.wc b o s) (hc : s.code = 2) {g d ob : Nat} {w : World} {r : Rs} {own : List Vl} (hs : Sm X.w0 X.P X.fv w r d) (ho : OwM w ob r.ab own) (ha : 0 ≤ s.a ∧ s.a < own.length) (hk : own.length ≤ 1000000) :
    Calls Tryz.prog 82 (rkA X b o ob own.length) w (RkP X w r d (zp X.fs g d s own r.s)) := by
  have c0 := zk (A := zv) (hX.cell hs hst.c0)
  have c2 := zk (A := zv) (hX.cell hs hst.c2)
  rw [hc] at c0
  obtain ⟨q, o1, o2, o3⟩ := ho.get ha.1 ha.2
  obtain ⟨p, l, c, rfl⟩ := qv_slice o3
  have HS : Hid (Sm X.w0 X.P X.fv w r d) := hs
  obtain ⟨ia, hia⟩ : ∃ ia : Nat, s.a = ia := ⟨s.a.toNat, by omega⟩
  obtain ⟨k, hk2⟩ : ∃ k, own.length = k := ⟨_, rfl⟩
  have hlt : ia < k := by omega
  obtain ⟨n, hn⟩ : ∃ n, (pl own s.a).1 = n := ⟨_, rfl⟩
  have HQ : Hid (QvS r.ab (pl own s.a).2 (.slice p l c)) := o3
  have HN : Hid ((pl own s.a).1 = n) := hn
  rw [hn] at o1
  rw [hia] at c2 o1 o2
  rw [Int.toNat_natCast] at o1 o2
  have o1' := zk (A := zv) o1
  have o2' := zk (A := zv) o2
  have HE : Hid (zp X.fs g d s own r.s = .ok (pl own s.a, r.s)) := congrFun (rk_2 hc) _
  show Calls Tryz.prog 82 #[ptr X.P, .pointer (some ⟨b, o, none⟩), .slice (some ⟨ob, 0, none⟩) own.length own.length] w _
  generalize hG : RkP X w r d (zp X.fs g d s own r.s) = G
  have HG : Hid (RkP X w r d (zp X.fs g d s own r.s) = G) := hG
  rw [hk2]
  rw [hk2] at hk
  clear hs hst hc hX hG ha o1 o2 o3 hia hk2 ho hn
  go_enter Tryz.func82, Tryz.ntmps82
  go_wp2
  refine bodyPost_ret (v := vlA n (.slice p l c)) (by simp [results, Tryz.results82, go_sem]) rfl ?_
  rw [← HG.out, HE.out]
  exact ⟨r, d, HS.out.below (zt _ _), Fz.below (zt _ _), .inl ⟨pl own s.a, p, l, c, rfl, rfl, by rw [HN.out], HQ.out⟩⟩
theorem both_er {op : By} {a b : Int} {s : Sg} {k : Int} (h : (bothV op a b).2 = k) (h0 : k ≠ 0) : bothG op a b s = .error (k, s.out) := by
  unfold bothG
  rw [if_pos (by rw [h]; exact h0), h]
  rfl
theorem both_ok {op : By} {a b : Int} {s : Sg} (h : (bothV op a b).2 = 0) : bothG op a b s = .ok ((bothV op a b).1, s) := by
  unfold bothG
  rw [if_neg (by rw [h]; simp)]
  rfl
theorem rk_two {X : Mx} (hX : MxOk X) {s : Ms} {b o : Nat} (hst : StepAt X.wc b o s) (hc : s.code = 3) {g d ob : Nat} {w : World} {r : Rs} {own : List Vl} (hs : Sm X.w0 X.P X.fv w r d) (ho : OwM w ob r.ab own) (ha : 0 ≤ s.a ∧ s.a < own.length) (hb : 0 ≤ s.b ∧ s.b < own.length) (hk : own.length ≤ 1000000) :
    Calls Tryz.prog 82 (rkA X b o ob own.length) w (RkP X w r d (zp X.fs g d s own r.s)) := by
  have c0 := zk (A := zv) (hX.cell hs hst.c0)
  have c2 := zk (A := zv) (hX.cell hs hst.c2)
  have c3 := zk (A := zv) (hX.cell hs hst.c3)
  have c6 := zk (A := zv) (hX.cell hs hst.c6)
  rw [hc] at c0
  obtain ⟨q, o1, -, -⟩ := ho.get ha.1 ha.2
  obtain ⟨q', u1, -, -⟩ := ho.get hb.1 hb.2
  have HS : Hid (Sm X.w0 X.P X.fv w r d) := hs
  obtain ⟨ia, hia⟩ : ∃ ia : Nat, s.a = ia := ⟨s.a.toNat, by omega⟩
  obtain ⟨ib, hib⟩ : ∃ ib : Nat, s.b = ib := ⟨s.b.toNat, by omega⟩
  obtain ⟨k, hk2⟩ : ∃ k, own.length = k := ⟨_, rfl⟩
  have hlt : ia < k := by omega
  have hlt2 : ib < k := by omega
  obtain ⟨n, hn⟩ : ∃ n, (pl own s.a).1 = n := ⟨_, rfl⟩
  obtain ⟨m, hm⟩ : ∃ m, (pl own s.b).1 = m := ⟨_, rfl⟩
  rw [hn] at o1
  rw [hm] at u1
  rw [hia] at c2 o1
  rw [hib] at c3 u1
  rw [Int.toNat_natCast] at o1 u1
  have o1' := zk (A := zv) o1
  have u1' := zk (A := zv) u1
  obtain ⟨y, hy⟩ : ∃ y : ByteArray, (⟨s.op.toArray⟩ : ByteArray) = y := ⟨_, rfl⟩
  rw [hy] at c6
  have hyl : y.data.toList = s.op := by rw [← hy]
  obtain ⟨n1, hn1⟩ : ∃ n1, (bothV s.op n m).1 = n1 := ⟨_, rfl⟩
  obtain ⟨n2, hn2⟩ : ∃ n2, (bothV s.op n m).2 = n2 := ⟨_, rfl⟩
  have HB : Hid (∀ W, Calls Tryz.prog 116 #[.string y, .int .i64 n, .int .i64 m] W fun e w' => e = .returned (.tuple #[.int .i64 n1, .int .i64 n2]) ∧ w' = W) := fun W => by
    have := both_any y n m W
    rw [hyl] at this
    refine this.mono ?_
    rintro e w' ⟨rfl, rfl⟩
    exact ⟨by rw [hn1, hn2], rfl⟩
  have HV : Hid ((bothV s.op n m).1 = n1 ∧ (bothV s.op n m).2 = n2) := ⟨hn1, hn2⟩
  have HE : Hid (zp X.fs g d s own r.s = (gb (bothG s.op n m) fun n => gp (n, none)) r.s) := by rw [← hn, ← hm]; exact congrFun (rk_3 hc) _
  show Calls Tryz.prog 82 #[ptr X.P, .pointer (some ⟨b, o, none⟩), .slice (some ⟨ob, 0, none⟩) own.length own.length] w _
  generalize hG : RkP X w r d (zp X.fs g d s own r.s) = G
  have HG : Hid (RkP X w r d (zp X.fs g d s own r.s) = G) := hG
  rw [hk2]
  rw [hk2] at hk
  clear hs hst hc hX hG ha hb o1 u1 hia hib hk2 ho hn hm hy hyl hn1 hn2
  go_enter Tryz.func82, Tryz.ntmps82
  go_wp2_with fail
  go_quiet ((go_at_call 116; exact Calls.quiet_of_same (HB.out _)))
  obtain ⟨W1, hW1⟩ : ∃ W1, W1 = (w.alloc zv).drewN nq := ⟨_, rfl⟩
  have hb1 : Below (w.alloc zv).heap.size (w.alloc zv) W1 := by rw [hW1]; exact zD _ _
  have HF2 : Hid (Sm X.w0 X.P X.fv W1 r d ∧ Fz X.P NoE (w.alloc zv) r W1 r) := ⟨(HS.out.below (zt _ _)).below hb1, Fz.below hb1⟩
  have hk2 := (r0_kept HS.out HF2.out.2).1
  have b1 := z_ (i := 0) hk2 rfl
  have b2 := z_ (i := 1) hk2 rfl
  have b3 := zb hk2 0
  have b4 := zb hk2 1
  rw [← hW1]
  clear hW1 hb1 hk2 c0 c2 c3 c6 o1' u1'
  by_cases h0 : n2 = 0
  · subst h0
    go_wp2_with (go_at_call 78; fail)
    obtain ⟨e1, e2⟩ := rk_put (y := (n1, none)) (p := none) (l := 0) (c := 0) HS.out HF2.out.1 HF2.out.2 rfl
    refine bodyPost_ret (res179 Tryz.results82 _ _ w.heap.size _ _ rfl e1) rfl ?_
    rw [← HG.out, HE.out, gb_o (both_ok HV.out.2), HV.out.1]
    exact e2
  · have hd : (n2 != 0) = true := by simpa using h0
    have H0 : Hid (n2 ≠ 0) := h0
    clear h0
    go_wp2_with (go_at_call 78; refine (zU _ _).mono ?_; rintro e w' ⟨rfl, rfl⟩)
    refine ⟨rfl, ?_⟩
    rw [← HG.out, HE.out, gb_e (both_er HV.out.2 H0.out)]
    exact rk_end HF2.out.1 HF2.out.2
theorem item_q {w0 : World} {P : Nat} {fv : Value} {w : World} {r : Rs} {d : Nat} (hs : Sm w0 P fv w r d) {x : Option Nat} {p : Option Addr} {l c : Nat} (hq : QvS r.ab x (.slice p l c)) (i : Int) :
    ((i < 0 ∨ ((zS r.s x).length : Int) ≤ i) ∧ ∀ W, Calls Tryz.prog 81 #[.slice p l c, .int .i64 i] W fun e w' => e = endE 3 ∧ w' = W) ∨
    (∃ b n j, x = some j ∧ r.ab[j]? = some (b, n) ∧ ¬ (i < 0 ∨ ((zS r.s x).length : Int) ≤ i) ∧ 0 ≤ i ∧ i < n ∧ n ≤ 40 ∧ w.cell? ⟨b, i.toNat, none⟩ = some (.int .i64 ((zS r.s x).getD i.toNat 0)) ∧ w.frozen? ⟨b, i.toNat, none⟩ = false ∧ ∀ W, Calls Tryz.prog 81 #[.slice p l c, .int .i64 i] W fun e w' => e = .returned (.pointer (some ⟨b, i.toNat, none⟩)) ∧ w' = W) := by
  have hl := arr_len hs hq
  cases x with
  | none =>
    injection hq with h1 h2 h3
    subst h1 h2 h3
    left
    refine ⟨?_, fun W => item_nil i W⟩
    show i < 0 ∨ (0 : Int) ≤ i
    omega
  | some j =>
    obtain ⟨b, n, g1, g2⟩ := hq
    injection g2 with g2 g3 g4
    subst g2 g3 g4
    obtain ⟨ll, a1, a2, a3, a4⟩ := hs.arr j b c g1
    have e : zS r.s (some j) = ll := by show r.s.hp.getD j [] = ll; rw [List.getD_eq_getElem?_getD, a1]; rfl
    by_cases h : i < 0 ∨ (c : Int) ≤ i
    · left
      refine ⟨by rw [hl]; exact h, fun W => (item_any b c c i W a3).mono ?_⟩
      rintro e w' ⟨⟨_, rfl⟩ | ⟨k1, k2, rfl⟩, rfl⟩
      · exact ⟨rfl, rfl⟩
      · omega
    · right
      refine ⟨b, c, j, rfl, g1, by rw [hl]; exact h, by omega, by omega, a3, ?_, zb a4 _, fun W => (item_any b c c i W a3).mono ?_⟩
      · rw [e]
        refine z_ a4 ?_
        have : i.toNat < ll.length := by omega
        simp [q_, List.getElem?_eq_getElem this]
      · rintro e w' ⟨⟨k1, rfl⟩ | ⟨k1, k2, rfl⟩, rfl⟩
        · omega
        · exact ⟨rfl, rfl⟩
theorem it_er {q : Option Nat} {i : Int} {s : Sg} (h : i < 0 ∨ ((zS s q).length : Int) ≤ i) : itemG q i s = .error (3, s.out) := if_pos h
theorem it_ok {q : Option Nat} {i : Int} {s : Sg} (h : ¬ (i < 0 ∨ ((zS s q).length : Int) ≤ i)) : itemG q i s = .ok ((zS s q).getD i.toNat 0, s) := if_neg h
theorem rk_load {X : Mx} (hX : MxOk X) {s : Ms} {b o : Nat} (hst : StepAt X.wc b o s) (hc : s.code = 11) {g d ob : Nat} {w : World} {r : Rs} {own : List Vl} (hs : Sm X.w0 X.P X.fv w r d) (ho : OwM w ob r.ab own) (ha : 0 ≤ s.a ∧ s.a < own.length) (hb : 0 ≤ s.b ∧ s.b < own.length) (hk : own.length ≤ 1000000) :
    Calls Tryz.prog 82 (rkA X b o ob own.length) w (RkP X w r d (zp X.fs g d s own r.s)) := by
  have c0 := zk (A := zv) (hX.cell hs hst.c0)
  have c2 := zk (A := zv) (hX.cell hs hst.c2)
  have c3 := zk (A := zv) (hX.cell hs hst.c3)
  rw [hc] at c0
  obtain ⟨q, -, o2, o3⟩ := ho.get ha.1 ha.2
  obtain ⟨p, l, c, rfl⟩ := qv_slice o3
  obtain ⟨q', u1, -, -⟩ := ho.get hb.1 hb.2
  have HS : Hid (Sm X.w0 X.P X.fv w r d) := hs
  have HS1 : Hid (Sm X.w0 X.P X.fv (w.alloc zv) r d) := hs.below (zt _ _)
  obtain ⟨ia, hia⟩ : ∃ ia : Nat, s.a = ia := ⟨s.a.toNat, by omega⟩
  obtain ⟨ib, hib⟩ : ∃ ib : Nat, s.b = ib := ⟨s.b.toNat, by omega⟩
  obtain ⟨k, hk2⟩ : ∃ k, own.length = k := ⟨_, rfl⟩
  have hlt : ia < k := by omega
  have hlt2 : ib < k := by omega
  obtain ⟨m, hm⟩ : ∃ m, (pl own s.b).1 = m := ⟨_, rfl⟩
  obtain ⟨x, hx⟩ : ∃ x, (pl own s.a).2 = x := ⟨_, rfl⟩
  rw [hx] at o3
  rw [hm] at u1
  rw [hia] at c2 o2
  rw [hib] at c3 u1
  rw [Int.toNat_natCast] at o2 u1
  have o2' := zk (A := zv) o2
  have u1' := zk (A := zv) u1
  have HE : Hid (zp X.fs g d s own r.s = (gb (itemG x m) fun n => gp (n, none)) r.s) := by rw [← hx, ← hm]; exact congrFun (rk_11 hc) _
  have hit := item_q HS1.out o3 m
  show Calls Tryz.prog 82 #[ptr X.P, .pointer (some ⟨b, o, none⟩), .slice (some ⟨ob, 0, none⟩) own.length own.length] w _
  generalize hG : RkP X w r d (zp X.fs g d s own r.s) = G
  have HG : Hid (RkP X w r d (zp X.fs g d s own r.s) = G) := hG
  rw [hk2]
  rw [hk2] at hk
  clear hs hst hc hX hG ha hb o2 u1 hia hib hk2 ho hm hx o3
  have HC : Hid (∀ W, Calls Tryz.prog 81 #[.slice p l c, .int .i64 m] W fun e w' => (((m < 0 ∨ ((zS r.s x).length : Int) ≤ m) ∧ e = endE 3) ∨ (∃ bb im v, (¬ (m < 0 ∨ ((zS r.s x).length : Int) ≤ m) ∧ (zS r.s x).getD m.toNat 0 = v) ∧ (w.alloc zv).cell? ⟨bb, im, none⟩ = some (.int .i64 v) ∧ e = .returned (.pointer (some ⟨bb, im, none⟩)))) ∧ w' = W) := fun W => by
    rcases hit with ⟨h1, hC⟩ | ⟨bb, n, j, -, -, h1, h2, h3, h4, h5, -, hC⟩
    · refine (hC W).mono ?_
      rintro e w' ⟨rfl, rfl⟩
      exact ⟨.inl ⟨h1, rfl⟩, rfl⟩
    · refine (hC W).mono ?_
      rintro e w' ⟨rfl, rfl⟩
      exact ⟨.inr ⟨bb, m.toNat, _, ⟨h1, rfl⟩, h5, rfl⟩, rfl⟩
  have HEnd : Hid (∀ W, Below (w.alloc zv).heap.size (w.alloc zv) W → (m < 0 ∨ ((zS r.s x).length : Int) ≤ m) → G (endE 3) W) := fun W hb h1 => by
    rw [← HG.out, HE.out, gb_e (it_er h1)]
    exact rk_end (HS1.out.below hb) (Fz.below hb)
  have HFin : Hid (∀ v A W, (¬ (m < 0 ∨ ((zS r.s x).length : Int) ≤ m) ∧ (zS r.s x).getD m.toNat 0 = v) → Below (w.alloc A).heap.size (w.alloc A) W → G (.returned (vlA v (.slice none 0 0))) W) := fun v A W h1 hb => by
    rw [← HG.out, HE.out, gb_o (it_ok h1.1), h1.2]
    have hbb := (zt w A).trans (hb.mono (zt w A).size)
    exact ⟨r, d, HS.out.below hbb, Fz.below hbb, .inl ⟨(v, none), none, 0, 0, rfl, rfl, rfl, rfl⟩⟩
  clear hit
  go_enter Tryz.func82, Tryz.ntmps82
  go_wp2_with fail
  go_region_with (go_at_call 81; refine (HC.out _).mono ?_; rintro e w3 ⟨⟨h1, rfl⟩ | ⟨bb, im, v, h1, h5, rfl⟩, rfl⟩; exact ⟨rfl, HEnd.out _ (by repeat first | exact Below.refl _ _ | refine Below.drew ?_) h1⟩; have H1 : Hid (¬ (m < 0 ∨ ((zS r.s x).length : Int) ≤ m) ∧ (zS r.s x).getD m.toNat 0 = v) := h1; clear h1)
  all_goals
    go_wp2
    refine bodyPost_ret (v := vlA v (.slice none 0 0)) (by simp [results, Tryz.results82, go_sem]) rfl ?_
    exact HFin.out v _ _ H1.out (by repeat first | exact Below.refl _ _ | refine Below.drew ?_)
theorem info179 : (Tryz.prog.info? 179).map (fun i => (i.zero, i.size, i.bytes)) = some (some (.agg #[.int .i64 0, .slice none 0 0]), 2, 32) := by kernel_rfl
def zs : Nat → List Value
  | 0 => []
  | n + 1 => .int .i64 0 :: .slice none 0 0 :: zs n
theorem zs_len : ∀ n, (zs n).length = n * 2
  | 0 => rfl
  | n + 1 => by simp only [zs, List.length_cons, zs_len n]; omega
theorem zs_get : ∀ (n j : Nat), j < n * 2 → (zs n)[j]? = some (if j % 2 = 0 then .int .i64 0 else .slice none 0 0)
  | 0, j, h => by omega
  | n + 1, 0, h => rfl
  | n + 1, 1, h => rfl
  | n + 1, j + 2, h => by
    show (zs n)[j]? = _
    rw [zs_get n j (by omega), show (j + 2) % 2 = j % 2 by omega]
theorem made_vals (n : Nat) : madeCells (Value.agg #[.int .i64 0, .slice none 0 0]).cells (n * 2) = (zs n).toArray := by
  apply Array.ext'
  apply List.ext_getElem?
  intro j
  by_cases hj : j < n * 2
  · rw [show (zs n).toArray.toList = zs n from rfl, zs_get n j hj]
    have h2 : j % 2 = 0 ∨ j % 2 = 1 := by omega
    show (madeCells #[Value.int .i64 0, .slice none 0 0] (n * 2)).toList[j]? = _
    rcases h2 with h2 | h2 <;> simp [madeCells, hj, h2]
  · rw [show (zs n).toArray.toList = zs n from rfl, List.getElem?_eq_none (l := zs n) (by rw [zs_len]; omega)]
    simp [madeCells, hj]
theorem mk_vals (n : Nat) (hn : n ≤ 1000000) (w : World) : (Instr.makeSlice 122 (.int .i64 (n : Int)) (.int .i64 (n : Int))).run Tryz.prog w = .ok (.slice (some ⟨w.heap.size, 0, none⟩) n n) (w.alloc (.cells (zs n).toArray 179)) := by
  obtain ⟨i, hi, hz0, hz1, hz2⟩ := info_parts info179
  have := run_makeSlice w 122 179 i _ Tryz.underlying122 hi hz0 .i64 .i64 (n : Int) (n : Int) (by omega) (by omega) (by rw [hz1]; simp; omega) (by rw [hz2]; omega) (by omega)
  rw [hz1] at this
  simp only [Int.toNat_natCast, made_vals] at this
  exact this
def FrP (k : Nat) (w : World) (e : Ending) (w' : World) : Prop := ∃ A, e = .returned (.slice (some ⟨w.heap.size + 1, 0, none⟩) k k) ∧ w' = (w.alloc A).alloc (.cells (zs k).toArray 179)
theorem fresh_any {fb fo : Nat} {F : Mf} {mv : Value} (w : World) {q : Option Addr} {c : Nat} (h : w.cell? ⟨fb, fo + 2, none⟩ = some (.slice q F.types.length c)) (hk : F.types.length ≤ 1000000) (mb : Nat) (hmv : mv = .map (some mb)) :
    Calls Tryz.prog 51 #[.agg #[.pointer (some ⟨fb, fo, none⟩), mv]] w (FrP F.types.length w) := by
  subst hmv
  obtain ⟨k, hk2⟩ : ∃ k, F.types.length = k := ⟨_, rfl⟩
  rw [hk2] at h hk ⊢
  have h1 := zk (A := .cells #[.pointer (some ⟨fb, fo, none⟩), .map (some mb)] 120) h
  have hm := mk_vals k hk
  clear hk2 h
  go_enter Tryz.func51, Tryz.ntmps51
  go_wp2
  go_ret
  exact ⟨_, rfl, rfl⟩
def LabM (w : World) (mb : Nat) (l : List Ms) : Prop := ∀ W, (∀ b, b < w.heap.size → W.heap[b]? = w.heap[b]?) → ∀ x, I64 x → (Instr.lookup 118 (.map (some mb)) (.int .i64 x) false).run Tryz.prog W = .ok (.int .i64 (((zJ l x).getD 0 : Nat) : Int)) W
abbrev In (F : Mf) (i : Int) : Prop := 0 ≤ i ∧ i < F.types.length
structure StOk (fs : By → Option Mf) (F : Mf) (s : Ms) : Prop where
  code : 1 ≤ s.code ∧ s.code ≤ 14
  dst : s.code = 1 ∨ s.code = 2 ∨ s.code = 3 ∨ s.code = 7 ∨ s.code = 9 ∨ s.code = 10 ∨ s.code = 11 ∨ s.code = 14 → In F s.dst
  a : s.code = 2 ∨ s.code = 3 ∨ s.code = 5 ∨ s.code = 8 ∨ s.code = 9 ∨ s.code = 10 ∨ s.code = 11 ∨ s.code = 12 ∨ s.code = 13 → In F s.a
  b : s.code = 3 ∨ s.code = 11 ∨ s.code = 12 → In F s.b
  c : s.code = 12 → In F s.c
  goes : s.code = 4 ∨ s.code = 5 → ∃ k, zJ F.steps s.label = some k
  call : s.code = 7 → ∃ G, fs s.name = some G ∧ s.args.length ≤ G.types.length ∧ ∀ x ∈ s.args, In F x
structure Rout (X : Mx) (F : Mf) (fb fo mb : Nat) : Prop where
  fn : FnAt X.wc fb fo F
  lab : LabM X.wc mb F.steps
  ok : ∀ s ∈ F.steps, StOk X.fs F s
  last : ∃ s, F.steps[F.steps.length - 1]? = some s ∧ (s.code = 8 ∨ s.code = 4)
abbrev zr : Obj := .cells #[.pointer none, .map none] 120
abbrev rtV (fb fo mb : Nat) : Value := .agg #[.pointer (some ⟨fb, fo, none⟩), .map (some mb)]
structure FnsOk (X : Mx) : Prop where
  look : ∀ nm F, X.fs nm = some F → ∃ fb fo mb, Rout X F fb fo mb ∧ ∀ W, (∀ b, b < X.wc.heap.size → W.heap[b]? = X.wc.heap[b]?) → (Instr.lookup 112 X.fv (.string ⟨nm.toArray⟩) false).run Tryz.prog W = .ok (rtV fb fo mb) W
theorem MxOk.all {X : Mx} (h : MxOk X) {w : World} {r : Rs} {d : Nat} (hs : Sm X.w0 X.P X.fv w r d) : ∀ b, b < X.wc.heap.size → w.heap[b]? = X.wc.heap[b]? := fun b hb => by
  have h1 := h.size
  have h2 := hs.lt
  rw [hs.kp b (by omega) (by omega), h.keep b hb]
def qx (fs : By → Option Mf) (g d : Nat) (F : Mf) (o : List Vl) : Go1 Int := if 40 ≤ d then gt 5 else goN fs g (d + 1) F 0 o
def ClP (X : Mx) (w : World) (r : Rs) (d ob : Nat) (x : Except (Int × List Int) (Int × Sg)) (e : Ending) (w' : World) : Prop :=
  ∃ r' d', Sm X.w0 X.P X.fv w' r' d' ∧ Fz X.P (fun b => b = ob) w r w' r' ∧ ((∃ n, d' = d ∧ x = .ok (n, r'.s) ∧ e = .returned (.int .i64 n)) ∨ (∃ k, x = .error (k, r'.s.out) ∧ e = endE k))
def CallC (X : Mx) (g : Nat) : Prop := ∀ (F : Mf) (fb fo mb : Nat), Rout X F fb fo mb → ∀ (w : World) (r : Rs) (d ob : Nat) (o : List Vl), Sm X.w0 X.P X.fv w r d → OwM w ob r.ab o → o.length = F.types.length → X.w0.heap.size ≤ ob → (∀ out, qx X.fs g d F o r.s ≠ .error (99, out)) →
  Calls Tryz.prog 50 #[ptr X.P, rtV fb fo mb, .slice (some ⟨ob, 0, none⟩) o.length o.length] w (ClP X w r d ob (qx X.fs g d F o r.s))
theorem Fz.drop {P : Nat} {E : Nat → Prop} {w w' : World} {r r' : Rs} (h : Fz P E w r w' r') (hE : ∀ b, E b → w.heap.size ≤ b) : Fz P NoE w r w' r' :=
  ⟨h.os, h.tape, h.output, h.size, fun b hb hx _ => h.blk b hb hx (fun e => by have := hE b e; omega), h.pre, h.new⟩
theorem set_get2 {cs : List Value} {i : Nat} {a b : Value} (j : Nat) : ((cs.set (i * 2) a).set (i * 2 + 1) b)[j]? = if j = i * 2 + 1 then (if j < cs.length then some b else none) else if j = i * 2 then (if j < cs.length then some a else none) else cs[j]? := by
  by_cases h1 : j = i * 2 + 1
  · subst h1
    rw [if_pos rfl, List.getElem?_set]
    simp
  · have h1' : ¬ i * 2 + 1 = j := fun e => h1 e.symm
    rw [if_neg h1, List.getElem?_set, if_neg h1', List.getElem?_set]
    by_cases h2 : j = i * 2
    · subst h2
      simp
    · have h2' : ¬ i * 2 = j := fun e => h2 e.symm
      rw [if_neg h2, if_neg h2']
theorem OwM.put {w : World} {tb : Nat} {ab : List (Nat × Nat)} {l : List Vl} (h : OwM w tb ab l) {i : Nat} (hi : i < l.length) {x : Vl} {q : Value} (hq : QvS ab x.2 q) : OwM ((w.setCell ⟨tb, i * 2, none⟩ (.int .i64 x.1)).setCell ⟨tb, i * 2 + 1, none⟩ q) tb ab (l.set i x) := by
  obtain ⟨cs, hc, hl, hv⟩ := h
  refine ⟨(cs.set (i * 2) (.int .i64 x.1)).set (i * 2 + 1) q, ?_, by simp [hl], fun j y hy => ?_⟩
  · rw [heap_setCell_same _ _ _ _ _ _ (heap_setCell_same _ _ _ _ _ _ hc)]
    simp
  · rw [List.getElem?_set] at hy
    rw [set_get2, set_get2]
    by_cases e : i = j
    · subst e
      rw [if_pos rfl, if_pos hi] at hy
      injection hy with hy
      subst hy
      refine ⟨q, ?_, ?_, hq⟩
      · rw [if_neg (by omega), if_pos rfl, if_pos (by omega)]
      · rw [if_pos rfl, if_pos (by omega)]
    · rw [if_neg e] at hy
      obtain ⟨q', a1, a2, a3⟩ := hv j y hy
      refine ⟨q', ?_, ?_, a3⟩
      · rw [if_neg (by omega), if_neg (by omega)]; exact a1
      · rw [if_neg (by omega), if_neg (by omega)]; exact a2
theorem OwM.free {w : World} {tb : Nat} {ab : List (Nat × Nat)} {l : List Vl} (h : OwM w tb ab l) (i : Nat) : w.frozen? ⟨tb, i, none⟩ = false := by
  obtain ⟨cs, hc, _⟩ := h
  exact zb hc i
def thI (G : Mf) (o : List Vl) (l : List Int) (i : Nat) : List Vl := ((l.take i).map (pl o)) ++ List.replicate (G.types.length - i) (0, none)
theorem thI_len {G : Mf} {o : List Vl} {l : List Int} {i : Nat} (h : i ≤ l.length) (h2 : l.length ≤ G.types.length) : (thI G o l i).length = G.types.length := by
  simp [thI]
  omega
theorem thI_set {G : Mf} {o : List Vl} {l : List Int} {i : Nat} {a : Int} (h : l[i]? = some a) (h2 : l.length ≤ G.types.length) : (thI G o l i).set i (pl o a) = thI G o l (i + 1) := by
  have hi : i < l.length := (List.getElem?_eq_some_iff.1 h).1
  have e : l[i] = a := (List.getElem?_eq_some_iff.1 h).2
  unfold thI
  rw [show G.types.length - i = (G.types.length - (i + 1)) + 1 by omega, List.replicate_succ, List.set_append_right _ _ (by simp; omega), List.take_succ_eq_append_getElem hi, e]
  simp [Nat.min_eq_left (Nat.le_of_lt hi)]
theorem thI_all {G : Mf} {o : List Vl} {l : List Int} : thI G o l l.length = theirs G o l := by
  unfold thI theirs
  rw [List.take_length]
theorem zs_own (w : World) (tb : Nat) (ab : List (Nat × Nat)) (n : Nat) (h : w.heap[tb]? = some (.cells (zs n).toArray 179)) : OwM w tb ab (List.replicate n (0, none)) := by
  refine ⟨zs n, h, by rw [zs_len]; simp, fun i x hx => ?_⟩
  have hi : i < n := by have := (List.getElem?_eq_some_iff.1 hx).1; simpa using this
  have e : x = (0, none) := by rw [List.getElem?_replicate, if_pos hi] at hx; injection hx with hx; exact hx.symm
  subst e
  refine ⟨.slice none 0 0, ?_, ?_, rfl⟩
  · rw [zs_get n _ (by omega), if_pos (by omega)]
  · rw [zs_get n _ (by omega), if_neg (by omega)]
theorem rk_7 {fs : By → Option Mf} {g d : Nat} {s : Ms} {o : List Vl} {G : Mf} (h : s.code = 7) (hG : fs s.name = some G) : zp fs g d s o = gb (qx fs g d G (theirs G o s.args)) fun n => gp (n, none) := by
  unfold zp qx
  simp only [h, hG]
  by_cases hd : 40 ≤ d
  · simp [hd]; rfl
  · simp [hd]
theorem rk_call {X : Mx} (hX : MxOk X) (hF : FnsOk X) {F : Mf} {s : Ms} {b o : Nat} (hst : StepAt X.wc b o s) (hok : StOk X.fs F s) (hc : s.code = 7) {g d ob : Nat} (hC : CallC X g) {w : World} {r : Rs} {own : List Vl} (hs : Sm X.w0 X.P X.fv w r d) (ho : OwM w ob r.ab own) (hl : own.length = F.types.length) (hk : own.length ≤ 1000000) (hne : ∀ out, zp X.fs g d s own r.s ≠ .error (99, out)) :
    Calls Tryz.prog 82 (rkA X b o ob own.length) w (RkP X w r d (zp X.fs g d s own r.s)) := by
  obtain ⟨G, hG, hgl, hgi⟩ := hok.call hc
  obtain ⟨fb, fo, mb, hR, hlook⟩ := hF.look _ _ hG
  rw [rk_7 hc hG] at hne ⊢
  have c0 := zk (A := zv) (hX.cell hs hst.c0)
  have c8 := zk (A := zv) (hX.cell hs hst.c8)
  rw [hc] at c0
  have p0 : (w.alloc zv).cell? ⟨X.P, 0, none⟩ = some X.fv := zk (z_ (i := 0) hs.pb rfl)
  have HS : Hid (Sm X.w0 X.P X.fv w r d) := hs
  have HS1 : Hid (Sm X.w0 X.P X.fv (w.alloc zv) r d) := hs.below (zt _ _)
  obtain ⟨y, hy⟩ : ∃ y : ByteArray, (⟨s.name.toArray⟩ : ByteArray) = y := ⟨_, rfl⟩
  rw [hy] at c8 hlook
  have lk1 := hlook (w.alloc zv).drew (fun b hb => hX.all HS1.out b hb)
  have lk2 := hlook ((w.alloc zv).alloc zr).drew (fun b hb => hX.all (HS1.out.below (zt _ zr)) b hb)
  have c8' := zk (A := zr) c8
  have p0' := zk (A := zr) p0
  have HX : Hid (MxOk X) := hX
  have HR : Hid (Rout X G fb fo mb) := hR
  have HO : Hid (OwM w ob r.ab own ∧ own.length = F.types.length ∧ (∀ x ∈ s.args, In F x) ∧ s.args.length ≤ G.types.length) := ⟨ho, hl, hgi, hgl⟩
  have HSt : Hid (StepAt X.wc b o s) := hst
  have HC : Hid (CallC X g) := hC
  have HNe : Hid (∀ out, qx X.fs g d G (theirs G own s.args) r.s ≠ .error (99, out)) := (gb_ne hne).1
  show Calls Tryz.prog 82 #[ptr X.P, .pointer (some ⟨b, o, none⟩), .slice (some ⟨ob, 0, none⟩) own.length own.length] w _
  obtain ⟨k, hk2⟩ : ∃ k, own.length = k := ⟨_, rfl⟩
  have HK : Hid (own.length = k) := hk2
  generalize hGG : RkP X w r d (gb (qx X.fs g d G (theirs G own s.args)) (fun n => gp (n, none)) r.s) = GG
  have HG : Hid (RkP X w r d (gb (qx X.fs g d G (theirs G own s.args)) (fun n => gp (n, none)) r.s) = GG) := hGG
  rw [hk2]
  rw [hk2] at hk
  clear hs hst hc hX hF hok hC ho hl hne hG hgl hgi hR hlook hy hk2 hGG
  go_enter Tryz.func82, Tryz.ntmps82
  go_wp2_with fail
  go_region
  all_goals
    obtain ⟨W3, hW3⟩ : ∃ W3, W3 = ((w.alloc zv).alloc (.cells #[.pointer (some ⟨fb, fo, none⟩), .map (some mb)] 120)).drew := ⟨_, rfl⟩
    have hb3 : Below (w.alloc zv).heap.size (w.alloc zv) W3 := by rw [hW3]; exact (zt _ _).drew
    have hz3 : W3.heap.size = w.heap.size + 2 := by rw [hW3]; simp
    have i9 : W3.heap[w.heap.size + 1]? = some (.cells #[.pointer (some ⟨fb, fo, none⟩), .map (some mb)] 120) := by
      have e : (w.alloc zv).heap.size = w.heap.size + 1 := by simp
      rw [← e, hW3]
      exact heap_alloc_last (w.alloc zv) _
    rw [← hW3]
    clear hW3 lk1 lk2 c8 c8' p0 p0' c0
    have d0 := z_ (i := 0) i9 rfl
    have d1 := z_ (i := 1) i9 rfl
    have HS3 : Hid (Sm X.w0 X.P X.fv W3 r d) := HS1.out.below hb3
    obtain ⟨vt, ht1, qt, ct, rfl, -, -, -⟩ := HR.out.fn.c2
    have HFr : Hid (Calls Tryz.prog 51 #[rtV fb fo mb] W3 (FrP G.types.length W3)) := fresh_any W3 (HX.out.cell HS3.out ht1) HR.out.fn.i2.2.1 mb rfl
    clear ht1
    go_wp2_with (go_at_call 51; fail)
    refine HFr.out.mono ?_
    rintro e W4 ⟨A, rfl, hW4⟩
    have hb4 : Below W3.heap.size W3 W4 := by rw [hW4]; exact (zt _ _).trans ((zt (W3.alloc A) _).mono (zt W3 A).size)
    obtain ⟨tb, htb⟩ : ∃ tb, W3.heap.size + 1 = tb := ⟨_, rfl⟩
    obtain ⟨kt, hkt⟩ : ∃ kt, G.types.length = kt := ⟨_, rfl⟩
    have hT4 : W4.heap[tb]? = some (.cells (zs kt).toArray 179) := by
      have e : (W3.alloc A).heap.size = tb := by simp; omega
      rw [hW4, ← e, hkt]
      exact heap_alloc_last (W3.alloc A) _
    have HT : Hid (W3.heap.size + 1 = tb ∧ W3.heap.size = w.heap.size + 2 ∧ G.types.length = kt ∧ kt ≤ 1000000) := ⟨htb, hz3, hkt, by have := HR.out.fn.i2.2.1; omega⟩
    have HS4 : Hid (Sm X.w0 X.P X.fv W4 r d) := HS3.out.below hb4
    have HB4 : Hid (Below (w.alloc zv).heap.size (w.alloc zv) W4 ∧ W4.heap[w.heap.size + 1]? = some (.cells #[.pointer (some ⟨fb, fo, none⟩), .map (some mb)] 120)) := ⟨hb3.trans (hb4.mono hb3.size), by rw [hb4.block _ (by omega)]; exact i9⟩
    have HO4 : Hid (OwM W4 tb r.ab (thI G own s.args 0)) := by
      have := zs_own W4 tb r.ab kt hT4
      show OwM W4 tb r.ab _
      unfold thI
      simpa [hkt] using this
    obtain ⟨va, ha1, qa, ca, rfl, hal, -, hac⟩ := HSt.out.c9
    have a9 := HX.out.cell HS4.out ha1
    have HAc : Hid (s.args = [] ∨ ∃ g o, qa = some ⟨g, o, none⟩ ∧ ∀ j x, s.args[j]? = some x → X.wc.cell? ⟨g, o + j, none⟩ = some (.int .i64 x)) := hac
    obtain ⟨n, hn⟩ : ∃ n, s.args.length = n := ⟨_, rfl⟩
    have HN : Hid (s.args.length = n) := hn
    rw [hn] at a9 hal
    rw [htb, hkt]
    have HB3 : Hid (Below W3.heap.size W3 W4 ∧ Below (w.alloc zv).heap.size (w.alloc zv) W3) := ⟨hb4, hb3⟩
    clear hW4 hb4 hb3 hz3 i9 d0 d1 HFr hT4 htb hkt hac ha1 hn
    go_wp2_with fail
    go_loopw [74] (fun v wr => ∃ i : Nat, i ≤ n ∧ v = .int .i64 i ∧ Hid (OwM wr tb r.ab (thI G own s.args i)) ∧ Hid (Below tb W4 wr)) (fun v _ => n - (intOf v).toNat)
    case atStart => exact ⟨0, Nat.zero_le _, rfl, HO4, Below.refl _ _⟩
    case round =>
      obtain ⟨i, hin, rfl, HI, HB⟩ := hrel
      have HBr : Hid (Below W3.heap.size W3 wr) := by
        have h1 := HB3.out.1
        have h2 := HB.out
        have h3 := HT.out.1
        exact h1.trans (h2.mono (by omega))
      have HSr : Hid (Sm X.w0 X.P X.fv wr r d) := HS3.out.below HBr.out
      have HBw : Hid (Below (w.alloc zv).heap.size (w.alloc zv) wr) := HB3.out.2.trans (HBr.out.mono HB3.out.2.size)
      have hir : wr.heap[w.heap.size + 1]? = some (.cells #[.pointer (some ⟨fb, fo, none⟩), .map (some mb)] 120) := by
        rw [HB.out.block _ (by have := HT.out; omega)]
        exact HB4.out.2
      by_cases hlt : i < n
      · have hin2 := HN.out
        obtain ⟨x, hx⟩ : ∃ x, s.args[i]? = some x := ⟨s.args[i]'(by omega), List.getElem?_eq_getElem (by omega)⟩
        have hmem := HO.out.2.2.1 x (List.mem_of_getElem? hx)
        obtain ⟨ga, oa, rfl, hcell⟩ : ∃ g o, qa = some ⟨g, o, none⟩ ∧ ∀ j x, s.args[j]? = some x → X.wc.cell? ⟨g, o + j, none⟩ = some (.int .i64 x) := by
          rcases HAc.out with h | h
          · rw [h] at hx; simp at hx
          · exact h
        have q1 := HX.out.cell HSr.out (hcell i x hx)
        obtain ⟨ix, hix⟩ : ∃ ix : Nat, x = ix := ⟨x.toNat, by omega⟩
        have hxk : ix < k := by have := HK.out; have := HO.out.2.1; have := hmem.2; omega
        have hoW : OwM wr ob r.ab own := HO.out.1.mono (by
          have h1 := HO.out.1.lt
          rw [HBw.out.block ob (by simp; omega), zc h1]) List.prefix_rfl
        obtain ⟨qv, u1, u2, u3⟩ := hoW.get hmem.1 (by rw [HO.out.2.1]; exact hmem.2)
        obtain ⟨p5, l5, c5, rfl⟩ := qv_slice u3
        obtain ⟨nv, hnv⟩ : ∃ nv, (pl own x).1 = nv := ⟨_, rfl⟩
        rw [hnv] at u1
        have hlen := thI_len (o := own) (i := i) (by omega : i ≤ s.args.length) HO.out.2.2.2
        obtain ⟨qo, v1, v2, -⟩ := HI.out.get (i := (i : Int)) (by omega) (by rw [hlen]; have := HO.out.2.2.2; omega)
        rw [Int.toNat_natCast] at v1 v2
        have v3 := HI.out.free (i * 2)
        have v4 := HI.out.free (i * 2 + 1)
        have hik : i < kt := by have := HT.out.2.2.1; have := HO.out.2.2.2; omega
        have HNew : Hid (OwM ((wr.setCell ⟨tb, i * 2, none⟩ (.int .i64 nv)).setCell ⟨tb, i * 2 + 1, none⟩ (.slice p5 l5 c5)) tb r.ab (thI G own s.args (i + 1))) := by
          have := HI.out.put (i := i) (x := pl own x) (q := .slice p5 l5 c5) (by rw [hlen]; have := HO.out.2.2.2; omega) u3
          rw [thI_set hx HO.out.2.2.2, hnv] at this
          exact this
        have HBn : Hid (Below tb W4 ((wr.setCell ⟨tb, i * 2, none⟩ (.int .i64 nv)).setCell ⟨tb, i * 2 + 1, none⟩ (.slice p5 l5 c5))) := by
          have h := HB.out
          exact ⟨h.os, h.tape, h.output, by simp; exact h.size, fun b hb => by rw [heap_setCell_other _ _ _ _ (by show b ≠ tb; omega), heap_setCell_other _ _ _ _ (by show b ≠ tb; omega)]; exact h.block b hb⟩
        subst hix
        rw [Int.toNat_natCast] at u1 u2
        clear hx hmem hcell hoW u3 hnv hlen hir hin2
        go_wp2
        exact ⟨⟨i + 1, by omega, by go_num, HNew, HBn⟩, by simp [intOf]; omega⟩
      · have hi2 : i = s.args.length := by have := HN.out; omega
        have HOw : Hid (OwM wr tb r.ab (theirs G own s.args)) := by have := HI.out; rw [hi2, thI_all] at this; exact this
        have hlen : (theirs G own s.args).length = kt := by rw [← thI_all, thI_len (Nat.le_refl _) HO.out.2.2.2]; exact HT.out.2.2.1
        have d0 := z_ (i := 0) hir rfl
        have d1 := z_ (i := 1) hir rfl
        have HCl : Hid (Calls Tryz.prog 50 #[ptr X.P, rtV fb fo mb, .slice (some ⟨tb, 0, none⟩) kt kt] wr (ClP X wr r d tb (qx X.fs g d G (theirs G own s.args) r.s))) := by
          have := HC.out G fb fo mb HR.out wr r d tb (theirs G own s.args) HSr.out HOw.out (by rw [hlen]; exact HT.out.2.2.1.symm) (by have := HS.out.le; have := HT.out; omega) HNe.out
          rw [hlen] at this
          exact this
        clear hi2 hlen hir a9
        go_wp2_with (go_at_call 50; fail)
        refine HCl.out.mono ?_
        rintro e w5 ⟨r5, d5, h5, hf5, ⟨n5, rfl, hx5, rfl⟩ | ⟨k5, hx5, rfl⟩⟩
        · have HF5 : Hid (Sm X.w0 X.P X.fv w5 r5 d5 ∧ Fz X.P NoE (w.alloc zv) r w5 r5) := ⟨h5, ((Fz.below HBw.out).trans hf5).drop (fun b hb => by subst hb; have := HT.out; simp; omega)⟩
          have HX5 : Hid (qx X.fs g d5 G (theirs G own s.args) r.s = .ok (n5, r5.s)) := hx5
          have hk2 := (r0_kept HS.out HF5.out.2).1
          have b1 := z_ (i := 0) hk2 rfl
          have b2 := z_ (i := 1) hk2 rfl
          have b3 := zb hk2 0
          have b4 := zb hk2 1
          clear h5 hf5 hx5 hk2 d0 d1
          go_wp2
          obtain ⟨e1, e2⟩ := rk_put (y := (n5, none)) (p := none) (l := 0) (c := 0) HS.out HF5.out.1 HF5.out.2 rfl
          refine bodyPost_ret (res179 Tryz.results82 _ _ w.heap.size _ _ rfl e1) rfl ?_
          rw [← HG.out, gb_o HX5.out]
          exact e2
        · refine ⟨rfl, ?_⟩
          rw [← HG.out, gb_e hx5]
          exact rk_end h5 (((Fz.below HBw.out).trans hf5).drop (fun b hb => by subst hb; have := HT.out; simp; omega))
def Rv (v : Value) : Option (DataW Value × List MemPlace) := some (.held v, [])
def Mp (k : TypeId) (w : World) (b : Nat) (f : Lit → Option Value) (n : Nat) : Prop :=
  ∃ D, w.ownsMap Tryz.prog k Rv b n D ∧ Maps.size D = n ∧ ∀ kl, (∀ z, D.atKey kl (.held z) = .held ((f kl).getD z)) ∧ Maps.has D kl = (f kl).isSome
theorem own_size {k : TypeId} {w : World} {b n : Nat} {D : DataW Value} (h : w.ownsMap Tryz.prog k Rv b n D) : w.ownsMap Tryz.prog k Rv b (Maps.size D) D := by
  obtain ⟨es, clock, h1, h2, h3, rfl⟩ := h
  exact ⟨es, clock, h1, h2, by simp [Maps.size, length_sorted], rfl⟩
theorem Mp.obj {k : TypeId} {w : World} {b n : Nat} {f : Lit → Option Value} (h : Mp k w b f n) : ∃ es clock, w.heap[b]? = some (.map es clock) := by
  obtain ⟨D, ⟨es, clock, h1, _⟩, _⟩ := h
  exact ⟨es, clock, h1⟩
theorem Mp.kept {k : TypeId} {w w' : World} {b n : Nat} {f : Lit → Option Value} (h : Mp k w b f n) (hk : w'.heap[b]? = w.heap[b]?) : Mp k w' b f n := by
  obtain ⟨D, ⟨es, clock, h1, h2⟩, h3⟩ := h
  exact ⟨D, ⟨es, clock, by rw [hk]; exact h1, h2⟩, h3⟩
theorem Mp.lt {k : TypeId} {w : World} {b n : Nat} {f : Lit → Option Value} (h : Mp k w b f n) : b < w.heap.size := by
  obtain ⟨es, clock, h1⟩ := h.obj
  exact (Array.getElem?_eq_some_iff.1 h1).1
theorem Mp.made (k : TypeId) (w : World) : Mp k (w.alloc (.map #[] 0)) w.heap.size (fun _ => none) 0 :=
  ⟨_, World.ownsMap_made w Tryz.prog k Rv, rfl, fun kl => ⟨fun z => rfl, rfl⟩⟩
theorem Mp.look {k : TypeId} {w : World} {b n : Nat} {f : Lit → Option Value} {t e : TypeId} (h : Mp k w b f n) (K : Maps.Keyed Tryz.prog k) (ht : Tryz.prog.underlying t = some (.map k e)) {z : Value} (hz : (zeroValue e).run Tryz.prog w = .ok z w) {key : Value} {kl : Lit} (hkey : keyOf Tryz.prog k key = some kl) :
    (Instr.lookup t (.map (some b)) key false).run Tryz.prog w = .ok ((f kl).getD z) w := by
  obtain ⟨D, h1, _, h3⟩ := h
  obtain ⟨v, ps, hrun, hR⟩ := World.ownsMap.lookup h1 K ht hz (show Rv z = some (.held z, []) from rfl) hkey
  rw [(h3 kl).1] at hR
  unfold Rv at hR
  simp only [Option.some.injEq, Prod.mk.injEq, DataW.held.injEq] at hR
  rw [hrun, hR.1]
theorem Mp.look2 {k : TypeId} {w : World} {b n : Nat} {f : Lit → Option Value} {t e : TypeId} (h : Mp k w b f n) (K : Maps.Keyed Tryz.prog k) (ht : Tryz.prog.underlying t = some (.map k e)) {z : Value} (hz : (zeroValue e).run Tryz.prog w = .ok z w) {key : Value} {kl : Lit} (hkey : keyOf Tryz.prog k key = some kl) :
    (Instr.lookup t (.map (some b)) key true).run Tryz.prog w = .ok (.tuple #[(f kl).getD z, .bool (f kl).isSome]) w := by
  obtain ⟨D, h1, _, h3⟩ := h
  obtain ⟨v, ps, hrun, hR⟩ := World.ownsMap.look_ok h1 K ht hz (show Rv z = some (.held z, []) from rfl) hkey
  rw [(h3 kl).1] at hR
  unfold Rv at hR
  simp only [Option.some.injEq, Prod.mk.injEq, DataW.held.injEq] at hR
  rw [hrun, hR.1, (h3 kl).2]
theorem Mp.len {k : TypeId} {w : World} {b n : Nat} {f : Lit → Option Value} {t e : TypeId} (h : Mp k w b f n) (ht : Tryz.prog.underlying t = some (.map k e)) (ty : TypeId) : (Builtin.len_ #[t] ty #[.map (some b)]).run Tryz.prog w = .ok (.int .i64 n) w := by
  obtain ⟨D, h1, h2, _⟩ := h
  rw [h1.len ht ty, h2]
theorem Mp.put {k : TypeId} {w : World} {b n : Nat} {f g : Lit → Option Value} {t e : TypeId} (h : Mp k w b f n) (K : Maps.Keyed Tryz.prog k) (ht : Tryz.prog.underlying t = some (.map k e)) (hn : n < 100000000) {key : Value} {kl : Lit} (hkey : keyOf Tryz.prog k key = some kl) (hkl : WideAt.IsKeyLit kl) (v : Value)
    (hg : g kl = some v) (hgo : ∀ y, y ≠ kl → g y = f y) :
    ∃ w', (Instr.mapUpdate t (.map (some b)) key v).run Tryz.prog w = .ok () w' ∧ Mp k w' b g (if (f kl).isSome then n else n + 1) ∧ w.grownBy w' (some b) := by
  obtain ⟨D, h1, h2, h3⟩ := h
  obtain ⟨w', hrun, ho, hgr⟩ := World.ownsMap.update h1 K ht (by unfold maxLen; omega) hkey (show Rv v = some (.held v, []) from rfl)
  have hsz : Maps.size (D.put kl (.held v)) = if (f kl).isSome then n else n + 1 := by rw [Maps.size_put (h1.tidy K), (h3 kl).2, h2]
  refine ⟨w', hrun, ⟨_, ?_, hsz, fun y => ?_⟩, hgr⟩
  · rw [← hsz]; exact own_size ho
  · by_cases e : y = kl
    · subst e
      refine ⟨fun z => ?_, ?_⟩
      · rw [Maps.atKey_put_same h1.isMap hkl, hg]; rfl
      · rw [Maps.has_put_same h1.isMap hkl, hg]; rfl
    · refine ⟨fun z => ?_, ?_⟩
      · rw [Maps.atKey_put_other e, hgo y e]; exact (h3 y).1 z
      · rw [Maps.has_put_other e, hgo y e]; exact (h3 y).2
theorem key_i (x : Int) (hx : I64 x) : keyOf Tryz.prog 3 (.int .i64 x) = some (.int .i64 x) := Maps.keyOf_int_mk Tryz.underlying3 (WalkArith.wf_i64 (by have := hx.1; have := hx.2; omega))
theorem key_s (x : ByteArray) (hx : x.size ≤ 9223372036854775807) : keyOf Tryz.prog 9 (.string x) = some (.string x.data.toList) := Go.WideMaps.keyOf_string_mk Tryz.underlying9 (by unfold maxLen; omega)
theorem kdI : Maps.Keyed Tryz.prog 3 := Maps.int_keyed Tryz.underlying3
theorem kdS : Maps.Keyed Tryz.prog 9 := Maps.string_keyed Tryz.underlying9
theorem und69 : Tryz.prog.underlying 118 = some (.map 3 3) := Tryz.underlying118
theorem und62 : Tryz.prog.underlying 107 = some (.map 9 109) := Tryz.underlying107
theorem zero3 (w : World) : (zeroValue 3).run Tryz.prog w = .ok (.int .i64 0) w := by kernel_rfl
theorem zero64 (w : World) : (zeroValue 109).run Tryz.prog w = .ok (.pointer none) w := by kernel_rfl
def labF (l : List Ms) : Lit → Option Value
  | .int .i64 x => (zJ l x).map fun (k : Nat) => .int .i64 (k : Int)
  | _ => none
def qA (l : List Ms) : Prop := ((l.filter (fun s => s.code == 6)).map (·.label)).Nodup
end Go.Proofs.YtnfhpdbbfejioaaGreatDoor.Mid
