/- NE NF -/
import Derived.Test.YtjmbjpimabnohaaDoorK01
import Derived.BigQuiet
namespace Go.Proofs.YtjmbjpimabnohaaDoor.Mid
set_option linter.unusedVariables false
set_option linter.unusedSimpArgs false
open Go Go.RowKit
theorem al_bel (w : World) (A : Obj) : Below w.heap.size w (w.alloc A) := (Below.refl _ _).alloc (Nat.le_refl _) A
theorem Sm.newX {w0 : World} {P : Nat} {fv : Value} {w : World} {r : Rs} {d : Nat} (h : Sm w0 P fv w r d) {b : Nat} (hb : w.heap.size ≤ b) : ¬ Xs P r b := by
  intro hx
  rcases hx with rfl | hx | hx
  · have := h.ltP; omega
  · obtain ⟨p, hp, rfl⟩ := List.mem_map.1 hx
    obtain ⟨j, hj⟩ := List.getElem?_of_mem hp
    obtain ⟨l, _, _, _, a4⟩ := h.arr j p.1 p.2 hj
    have := (Array.getElem?_eq_some_iff.1 a4).1
    omega
  · have := (h.out.lt b hx).2
    omega
theorem Sm.setL {w0 : World} {P : Nat} {fv : Value} {w : World} {r : Rs} {d : Nat} (h : Sm w0 P fv w r d) {B i : Nat} {v : Value} (hB : ¬ Xs P r B) (hB0 : w0.heap.size ≤ B) : Sm w0 P fv (w.setCell ⟨B, i, none⟩ v) r d := by
  have ho : ∀ b, b ≠ B → (w.setCell ⟨B, i, none⟩ v).heap[b]? = w.heap[b]? := fun b hb => heap_setCell_other _ _ _ _ hb
  have hsz : (w.setCell ⟨B, i, none⟩ v).heap.size = w.heap.size := by simp
  refine ⟨h.lt, by rw [hsz]; exact h.le, fun b h1 h2 => ?_, ?_, h.inp, own_at h.out (fun k hk => ho k (fun e => hB (.inr (.inr (e ▸ hk))))), h.apart, h.alen, fun k b n hk => ?_, h.lo, h.nd, h.few, h.told, h.deep⟩
  · rw [ho b (by omega)]; exact h.kp b h1 h2
  · rw [ho P (fun e => hB (.inl e.symm))]; exact h.pb
  · obtain ⟨l, a1, a2, a3, a4⟩ := h.arr k b n hk
    refine ⟨l, a1, a2, a3, ?_⟩
    rw [ho b (fun e => hB (.inr (.inl (e ▸ List.mem_map.2 ⟨(b, n), List.mem_of_getElem? hk, rfl⟩))))]
    exact a4
theorem Fz.setL {P : Nat} {E : Nat → Prop} {w w1 : World} {r r1 : Rs} (h : Fz P E w r w1 r1) {B i : Nat} {v : Value} (hB : w.heap.size ≤ B) : Fz P E w r (w1.setCell ⟨B, i, none⟩ v) r1 :=
  ⟨h.os, h.tape, h.output, by simp; exact h.size, fun b hb hx he => by rw [heap_setCell_other _ _ _ _ (by show b ≠ B; omega)]; exact h.blk b hb hx he, h.pre, h.new⟩
theorem results_cell1 {fn : Func} {p : Tmp} {ty : TypeId} (h : fn.results = #[.cell p ty]) (tmps : Array Value) (P : Program) (w : World) :
    (results fn tmps).run P w = ((asAddr (tmps.getD p undef)).run P w).andThen fun a w₁ => (loadVar ty a).run P w₁ := by
  simp only [results, h]
  simp [Sem.run_bind, Result.andThen]
theorem res179 {fn : Func} {p : Tmp} (h : fn.results = #[.cell p 102]) (tmps : Array Value) (w : World) (g : Nat) (a0 a1 : Value) (hp : tmps.getD p undef = .pointer (some ⟨g, 0, none⟩)) (hg : w.heap[g]? = some (.cells #[a0, a1] 102)) :
    (results fn tmps).run Tryd.prog w = .ok (.agg #[a0, a1]) w := by
  have h1 : (loadVar 102 ⟨g, 0, none⟩).run Tryd.prog w = .ok (.agg #[a0, a1]) w := run_loadVar_row w g 102 102 _ (0, 0) _ hg Tryd.underlying102 rfl (by kernel_rfl)
  rw [results_cell1 h, hp]
  simp [asAddr]
  exact h1
theorem set2 {w : World} {B : Nat} {a0 a1 x z : Value} (h : w.heap[B]? = some (.cells #[a0, a1] 102)) : ((w.setCell ⟨B, 0, none⟩ x).setCell ⟨B, 1, none⟩ z).heap[B]? = some (.cells #[x, z] 102) := heap_setCell_same _ _ _ _ _ _ (heap_setCell_same _ _ _ _ _ _ h)
def Rs.new1 (r : Rs) (b : Nat) (n : Nat) : Rs := { r with ab := r.ab ++ [(b, n)], s := { r.s with hp := r.s.hp ++ [List.replicate n 0] } }
theorem Sm.newA {w0 : World} {P : Nat} {fv : Value} {w : World} {r : Rs} {d : Nat} (h : Sm w0 P fv w r d) {n : Nat} (hn : n ≤ 40) : Sm w0 P fv (w.alloc (.cells (ints (List.replicate n 0)).toArray 2)) (r.new1 w.heap.size n) d ∧ Fz P NoE w r (w.alloc (.cells (ints (List.replicate n 0)).toArray 2)) (r.new1 w.heap.size n) := by
  have hb := al_bel w (.cells (ints (List.replicate n 0)).toArray 2)
  have h' := h.below hb
  have hX := h.newX (Nat.le_refl w.heap.size)
  have hmap : (r.new1 w.heap.size n).ab.map (·.1) = r.ab.map (·.1) ++ [w.heap.size] := by simp [Rs.new1]
  refine ⟨⟨h'.lt, h'.le, h'.kp, h'.pb, h'.inp, h'.out, ?_, ?_, ?_, ?_, ?_, h'.few, h'.told, h'.deep⟩, ⟨hb.os, hb.tape, hb.output, hb.size, fun b h1 _ _ => hb.block b h1, ⟨[(w.heap.size, n)], rfl⟩, ?_⟩⟩
  · intro i hi hm
    rw [hmap] at hm
    rcases List.mem_append.1 hm with hm | hm
    · exact h.apart i hi hm
    · rw [List.mem_singleton] at hm
      subst hm
      exact hX (.inr (.inr hi))
  · show (r.ab ++ _).length = (r.s.hp ++ _).length
    simp [h.alen]
  · intro i b k hi
    have hi' : (r.ab ++ [(w.heap.size, n)])[i]? = some (b, k) := hi
    show ∃ l, (r.s.hp ++ [List.replicate n 0])[i]? = some l ∧ _
    rcases Nat.lt_or_ge i r.ab.length with hlt | hge
    · rw [List.getElem?_append_left hlt] at hi'
      obtain ⟨l, a1, a2, a3, a4⟩ := h'.arr i b k hi'
      exact ⟨l, by rw [List.getElem?_append_left (by rw [← h.alen]; exact hlt)]; exact a1, a2, a3, a4⟩
    · rw [List.getElem?_append_right hge] at hi'
      have e0 : i - r.ab.length = 0 := by
        rcases Nat.eq_zero_or_pos (i - r.ab.length) with e | e
        · exact e
        · rw [List.getElem?_eq_none (by simp; omega)] at hi'; cases hi'
      rw [e0] at hi'
      have e1 : (w.heap.size, n) = (b, k) := by simpa using hi'
      injection e1 with e1 e2
      subst e1
      subst e2
      refine ⟨List.replicate n 0, ?_, by simp, hn, heap_alloc_last _ _⟩
      rw [List.getElem?_append_right (by rw [← h.alen]; exact hge), ← h.alen, e0]
      rfl
  · intro b hm
    rw [hmap] at hm
    rcases List.mem_append.1 hm with hm | hm
    · exact h.lo b hm
    · rw [List.mem_singleton] at hm
      subst hm
      exact h.le
  · rw [hmap]
    refine List.nodup_append.2 ⟨h.nd, by simp, fun a ha b hb e => ?_⟩
    rw [List.mem_singleton] at hb
    subst hb
    subst e
    exact hX (.inr (.inl ha))
  · intro b hx hnx
    rcases hx with hx | hx | hx
    · exact absurd (.inl hx) hnx
    · rw [hmap] at hx
      rcases List.mem_append.1 hx with hx | hx
      · exact absurd (.inr (.inl hx)) hnx
      · rw [List.mem_singleton] at hx
        omega
    · exact absurd (.inr (.inr hx)) hnx
theorem new_er {n : Int} {s : Sg} (h : n < 0 ∨ 40 < n) : newG n s = .error (4, s.out) := if_pos h
theorem new_ok {n : Int} {s : Sg} (h : 0 ≤ n ∧ n ≤ 40) : newG n s = .ok ((0, some s.hp.length), { s with hp := s.hp ++ [List.replicate n.toNat 0] }) := if_neg (by omega)
theorem arr_len {w0 : World} {P : Nat} {fv : Value} {w : World} {r : Rs} {d : Nat} (h : Sm w0 P fv w r d) {q : Option Nat} {p : Option Addr} {l c : Nat} (hq : QvS r.ab q (.slice p l c)) : (arrOf r.s q).length = l := by
  cases q with
  | none =>
    injection hq with _ h2 _
    rw [h2]
    rfl
  | some i =>
    obtain ⟨b, n, h1, h2⟩ := hq
    injection h2 with _ h3 _
    obtain ⟨li, a1, a2, _, _⟩ := h.arr i b n h1
    show (r.s.hp.getD i []).length = l
    rw [List.getD_eq_getElem?_getD, a1, h3]
    exact a2
def Rs.put1 (r : Rs) (i j : Nat) (n : Int) : Rs := { r with s := { r.s with hp := r.s.hp.modify i (fun l => l.set j n) } }
theorem Sm.putA {w0 : World} {P : Nat} {fv : Value} {w : World} {r : Rs} {d : Nat} (h : Sm w0 P fv w r d) {i b k j : Nat} {n : Int} (hi : r.ab[i]? = some (b, k)) : Sm w0 P fv (w.setCell ⟨b, j, none⟩ (.int .i64 n)) (r.put1 i j n) d ∧ Fz P NoE w r (w.setCell ⟨b, j, none⟩ (.int .i64 n)) (r.put1 i j n) := by
  have hmem : b ∈ r.ab.map (·.1) := List.mem_map.2 ⟨(b, k), List.mem_of_getElem? hi, rfl⟩
  have ho : ∀ x, x ≠ b → (w.setCell ⟨b, j, none⟩ (.int .i64 n)).heap[x]? = w.heap[x]? := fun x hx => heap_setCell_other _ _ _ _ hx
  have hsz : (w.setCell ⟨b, j, none⟩ (.int .i64 n)).heap.size = w.heap.size := by simp
  have hlo := h.lo b hmem
  refine ⟨⟨h.lt, by rw [hsz]; exact h.le, fun x h1 h2 => ?_, ?_, h.inp, own_at h.out (fun x hx => ho x (fun e => h.apart x hx (e ▸ hmem))), h.apart, ?_, fun x y m hx => ?_, h.lo, h.nd, h.few, h.told, h.deep⟩, ⟨rfl, rfl, rfl, by rw [hsz]; exact Nat.le_refl _, fun x _ hx _ => ho x (fun e => hx (.inr (.inl (e ▸ hmem)))), List.prefix_rfl, fun x h1 h2 => absurd h1 h2⟩⟩
  · rw [ho x (by omega)]; exact h.kp x h1 h2
  · rw [ho P (h.ne hmem).symm]; exact h.pb
  · show r.ab.length = (r.s.hp.modify i _).length
    rw [List.length_modify]
    exact h.alen
  · have hx' : r.ab[x]? = some (y, m) := hx
    obtain ⟨l, a1, a2, a3, a4⟩ := h.arr x y m hx'
    show ∃ l, (r.s.hp.modify i _)[x]? = some l ∧ _
    by_cases e : i = x
    · subst e
      rw [hi] at hx'
      injection hx' with hx'
      injection hx' with e1 e2
      subst e1
      subst e2
      refine ⟨l.set j n, by rw [List.getElem?_modify_eq, a1]; rfl, by rw [List.length_set]; exact a2, a3, ?_⟩
      rw [heap_setCell_same _ _ _ _ _ _ a4]
      congr 2
      apply Array.ext'
      simp [ints]
    · refine ⟨l, by rw [List.getElem?_modify_ne _ _ e]; exact a1, a2, a3, ?_⟩
      have hne : y ≠ b := fun e2 => by
        have q1 : (r.ab.map (·.1))[i]? = some b := by rw [List.getElem?_map, hi]; rfl
        have q2 : (r.ab.map (·.1))[x]? = some y := by rw [List.getElem?_map, hx']; rfl
        rw [e2] at q2
        exact e ((List.getElem?_inj (List.getElem?_eq_some_iff.1 q1).1 h.nd).1 (q1.trans q2.symm))
      rw [ho y hne]
      exact a4
theorem put_er {q : Option Nat} {i n : Int} {s : Sg} (h : i < 0 ∨ ((arrOf s q).length : Int) ≤ i) : putG q i n s = .error (3, s.out) := if_pos h
theorem put_ok {q : Option Nat} {i n : Int} {s : Sg} (h : ¬ (i < 0 ∨ ((arrOf s q).length : Int) ≤ i)) : putG q i n s = .ok ((), { s with hp := s.hp.modify (q.getD 0) (fun l => l.set i.toNat n) }) := if_neg h
theorem r0_kept {X : Mx} {w : World} {r : Rs} {d : Nat} {w1 : World} {r1 : Rs} (hs : Sm X.w0 X.P X.fv w r d) (hf : Fz X.P NoE (w.alloc zv) r w1 r1) : w1.heap[w.heap.size]? = some zv ∧ ¬ Xs X.P r1 w.heap.size := by
  have hx := hs.newX (Nat.le_refl w.heap.size)
  refine ⟨by rw [hf.blk w.heap.size (by simp) hx (fun e => e)]; exact heap_alloc_last _ _, fun h => ?_⟩
  have := hf.new _ h hx
  simp at this
  omega
theorem fz_in {X : Mx} {w : World} {r : Rs} {w1 : World} {r1 : Rs} {A : Obj} (hf : Fz X.P NoE (w.alloc A) r w1 r1) : Fz X.P NoE w r w1 r1 := (Fz.below ((Below.refl _ _).alloc (Nat.le_refl _) A)).trans hf
theorem rk_end {X : Mx} {w : World} {r : Rs} {d : Nat} {w1 : World} {r1 : Rs} {d1 : Nat} {k : Int} (h1 : Sm X.w0 X.P X.fv w1 r1 d1) (hf : Fz X.P NoE (w.alloc zv) r w1 r1) : RkP X w r d (.error (k, r1.s.out)) (endE k) w1 := ⟨r1, d1, h1, fz_in hf, .inr ⟨k, rfl, rfl⟩⟩
theorem rk_put {X : Mx} {w : World} {r : Rs} {d : Nat} {w1 : World} {r1 : Rs} {y : Vl} {p : Option Addr} {l c : Nat} (hs : Sm X.w0 X.P X.fv w r d) (h1 : Sm X.w0 X.P X.fv w1 r1 d) (hf : Fz X.P NoE (w.alloc zv) r w1 r1) (hq : QvS r1.ab y.2 (.slice p l c)) :
    ((w1.setCell ⟨w.heap.size, 0, none⟩ (.int .i64 y.1)).setCell ⟨w.heap.size, 1, none⟩ (.slice p l c)).heap[w.heap.size]? = some (.cells #[.int .i64 y.1, .slice p l c] 102) ∧ RkP X w r d (.ok (y, r1.s)) (.returned (vlA y.1 (.slice p l c))) ((w1.setCell ⟨w.heap.size, 0, none⟩ (.int .i64 y.1)).setCell ⟨w.heap.size, 1, none⟩ (.slice p l c)) := by
  obtain ⟨h2, h3⟩ := r0_kept hs hf
  refine ⟨set2 h2, r1, d, (h1.setL h3 hs.le).setL h3 hs.le, ?_, .inl ⟨y, p, l, c, rfl, rfl, rfl, hq⟩⟩
  exact ((fz_in hf).setL (Nat.le_refl _)).setL (Nat.le_refl _)
theorem rk_9 {fs : By → Option Mf} {g d : Nat} {s : Ms} {o : List Vl} (h : s.code = 9) : reckG fs g d s o = newG (pl o s.a).1 := by unfold reckG; simp [h]
theorem rk_14 {fs : By → Option Mf} {g d : Nat} {s : Ms} {o : List Vl} (h : s.code = 14) : reckG fs g d s o = gb takeG fun n => gp (n, none) := by unfold reckG; simp [h]
theorem rk_3 {fs : By → Option Mf} {g d : Nat} {s : Ms} {o : List Vl} (h : s.code = 3) : reckG fs g d s o = gb (bothG s.op (pl o s.a).1 (pl o s.b).1) fun n => gp (n, none) := by unfold reckG; simp [h]
theorem rk_2 {fs : By → Option Mf} {g d : Nat} {s : Ms} {o : List Vl} (h : s.code = 2) : reckG fs g d s o = gp (pl o s.a) := by unfold reckG; simp [h]
theorem rk_11 {fs : By → Option Mf} {g d : Nat} {s : Ms} {o : List Vl} (h : s.code = 11) : reckG fs g d s o = gb (itemG (pl o s.a).2 (pl o s.b).1) fun n => gp (n, none) := by unfold reckG; simp [h]
set_option maxRecDepth 100000 in
set_option maxHeartbeats 1000000 in
theorem rk_new {X : Mx} (hX : MxOk X) {s : Ms} {b o : Nat} (hst : StepAt X.wc b o s) (hc : s.code = 9) {g d ob : Nat} {w : World} {r : Rs} {own : List Vl} (hs : Sm X.w0 X.P X.fv w r d) (ho : OwM w ob r.ab own) (ha : 0 ≤ s.a ∧ s.a < own.length) (hk : own.length ≤ 1000000) :
    Calls Tryd.prog 44 (rkA X b o ob own.length) w (RkP X w r d (reckG X.fs g d s own r.s)) := by
  have c0 := cell_old (A := zv) (hX.cell hs hst.c0)
  have c2 := cell_old (A := zv) (hX.cell hs hst.c2)
  rw [hc] at c0
  obtain ⟨q, o1, o2, o3⟩ := ho.get ha.1 ha.2
  have HS : Hid (Sm X.w0 X.P X.fv w r d) := hs
  obtain ⟨ia, hia⟩ : ∃ ia : Nat, s.a = ia := ⟨s.a.toNat, by omega⟩
  obtain ⟨k, hk2⟩ : ∃ k, own.length = k := ⟨_, rfl⟩
  have hlt : ia < k := by omega
  obtain ⟨n, hn⟩ : ∃ n, (pl own s.a).1 = n := ⟨_, rfl⟩
  rw [hn] at o1
  rw [hia] at c2 o1
  rw [Int.toNat_natCast] at o1
  have o1' := cell_old (A := zv) o1
  have HE : Hid (reckG X.fs g d s own r.s = newG n r.s) := by rw [← hn]; exact congrFun (rk_9 hc) _
  show Calls Tryd.prog 44 #[ptr X.P, .pointer (some ⟨b, o, none⟩), .slice (some ⟨ob, 0, none⟩) own.length own.length] w _
  generalize hG : RkP X w r d (reckG X.fs g d s own r.s) = G
  have HG : Hid (RkP X w r d (reckG X.fs g d s own r.s) = G) := hG
  rw [hk2]
  rw [hk2] at hk
  clear hs hst hc hX hG ha o1 o2 o3 hia hk2 ho hn
  go_enter Tryd.func44, Tryd.ntmps44
  go_wp2_with (go_at_call 57; fail)
  refine (array_any _ _).mono ?_
  have HS1 : Hid (Sm X.w0 X.P X.fv (w.alloc zv) r d) := HS.out.below (al_bel _ _)
  rintro e w2 (⟨hn, rfl, rfl⟩ | ⟨hn1, hn2, rfl, hw2⟩)
  · refine ⟨rfl, ?_⟩
    rw [← HG.out, HE.out, new_er hn]
    exact rk_end HS1.out (Fz.refl _ _ _ _)
  · obtain ⟨a1, a2⟩ := HS1.out.newA (n := n.toNat) (by omega)
    rw [← hw2] at a1 a2
    have HF2 : Hid (Sm X.w0 X.P X.fv w2 (r.new1 (w.alloc zv).heap.size n.toNat) d ∧ Fz X.P NoE (w.alloc zv) r w2 (r.new1 (w.alloc zv).heap.size n.toNat)) := ⟨a1, a2⟩
    have hk2 := (r0_kept HS.out HF2.out.2).1
    have b1 := cell_at (i := 0) hk2 rfl
    have b2 := cell_at (i := 1) hk2 rfl
    have b3 := row_free hk2 0
    have b4 := row_free hk2 1
    have HY : Hid (0 ≤ n ∧ n ≤ 40) := ⟨hn1, hn2⟩
    obtain ⟨m2, hm2⟩ : ∃ m2, m2 = n.toNat := ⟨_, rfl⟩
    have HM2 : Hid (m2 = n.toNat) := hm2
    rw [← hm2]
    obtain ⟨B2, hB2⟩ : ∃ B2, B2 = (w.alloc zv).heap.size := ⟨_, rfl⟩
    have HB2 : Hid (B2 = (w.alloc zv).heap.size) := hB2
    rw [← hB2]
    clear a1 a2 hw2 hk2 hn1 hn2 hm2 hB2
    go_wp2
    have hal := HS.out.alen
    obtain ⟨e1, e2⟩ := rk_put (y := (0, some r.s.hp.length)) (p := some ⟨B2, 0, none⟩) (l := m2) (c := m2) HS.out HF2.out.1 HF2.out.2 ⟨(w.alloc zv).heap.size, n.toNat, by show (r.ab ++ _)[r.s.hp.length]? = _; rw [← hal]; simp, by rw [HM2.out, HB2.out]⟩
    refine bodyPost_ret (res179 Tryd.results44 _ _ w.heap.size _ _ rfl e1) rfl ?_
    rw [← HG.out, HE.out, new_ok HY.out]
    exact e2
set_option maxRecDepth 100000 in
set_option maxHeartbeats 1000000 in
theorem rk_input {X : Mx} (hX : MxOk X) {s : Ms} {b o : Nat} (hst : StepAt X.wc b o s) (hc : s.code = 14) {g d ob : Nat} {w : World} {r : Rs} {own : List Vl} (hs : Sm X.w0 X.P X.fv w r d) :
    Calls Tryd.prog 44 (rkA X b o ob own.length) w (RkP X w r d (reckG X.fs g d s own r.s)) := by
  have c0 := cell_old (A := zv) (hX.cell hs hst.c0)
  rw [hc] at c0
  have HS : Hid (Sm X.w0 X.P X.fv w r d) := hs
  have HE : Hid (reckG X.fs g d s own r.s = (gb takeG fun n => gp (n, none)) r.s) := congrFun (rk_14 hc) _
  generalize hG : RkP X w r d (reckG X.fs g d s own r.s) = G
  have HG : Hid (RkP X w r d (reckG X.fs g d s own r.s) = G) := hG
  clear hs hst hc hX hG
  go_enter Tryd.func44, Tryd.ntmps44
  go_wp2_with (go_at_call 58; fail)
  refine (take_any X.toCx _ r d (HS.out.below (al_bel _ _))).mono ?_
  rintro e w2 ⟨iv, rfl, h1, h2⟩
  obtain ⟨nx, hnx⟩ : ∃ nx, r.s.inp.headD 0 = nx := ⟨_, rfl⟩
  rw [hnx]
  have HNx : Hid (r.s.inp.headD 0 = nx) := hnx
  clear hnx
  have HF2 : Hid (Sm X.w0 X.P X.fv w2 (r.take1 iv) d ∧ Fz X.P NoE (w.alloc zv) r w2 (r.take1 iv)) := ⟨h1, h2⟩
  have hk2 := (r0_kept HS.out HF2.out.2).1
  have b1 := cell_at (i := 0) hk2 rfl
  have b2 := cell_at (i := 1) hk2 rfl
  have b3 := row_free hk2 0
  have b4 := row_free hk2 1
  clear h1 h2 hk2
  go_wp2
  obtain ⟨e1, e2⟩ := rk_put (y := (nx, none)) (p := none) (l := 0) (c := 0) HS.out HF2.out.1 HF2.out.2 rfl
  refine bodyPost_ret (res179 Tryd.results44 _ _ w.heap.size _ _ rfl e1) rfl ?_
  rw [← HG.out, HE.out]
  rw [← HNx.out] at e2 ⊢
  exact e2
theorem drewN_bel (w : World) (m : Nat) : Below w.heap.size w (w.drewN m) := ⟨rfl, rfl, rfl, Nat.le_refl _, fun _ _ => rfl⟩
theorem qv_slice {ab : List (Nat × Nat)} {x : Option Nat} {q : Value} (h : QvS ab x q) : ∃ p l c, q = .slice p l c := by
  cases x with
  | none => exact ⟨_, _, _, h⟩
  | some i =>
    obtain ⟨b, n, _, h2⟩ := h
    exact ⟨_, _, _, h2⟩
set_option maxRecDepth 100000 in
set_option maxHeartbeats 1000000 in
theorem rk_copy {X : Mx} (hX : MxOk X) {s : Ms} {b o : Nat} (hst : StepAt X.wc b o s) (hc : s.code = 2) {g d ob : Nat} {w : World} {r : Rs} {own : List Vl} (hs : Sm X.w0 X.P X.fv w r d) (ho : OwM w ob r.ab own) (ha : 0 ≤ s.a ∧ s.a < own.length) (hk : own.length ≤ 1000000) :
    Calls Tryd.prog 44 (rkA X b o ob own.length) w (RkP X w r d (reckG X.fs g d s own r.s)) := by
  have c0 := cell_old (A := zv) (hX.cell hs hst.c0)
  have c2 := cell_old (A := zv) (hX.cell hs hst.c2)
  rw [hc] at c0
  obtain ⟨q, o1, o2, o3⟩ := ho.get ha.1 ha.2
  obtain ⟨p, l, c, rfl⟩ := qv_slice o3
  have HS : Hid (Sm X.w0 X.P X.fv w r d) := hs
  obtain ⟨ia, hia⟩ : ∃ ia : Nat, s.a = ia := ⟨s.a.toNat, by omega⟩
  obtain ⟨k, hk2⟩ : ∃ k, own.length = k := ⟨_, rfl⟩
  have hlt : ia < k := by omega
  obtain ⟨n, hn⟩ : ∃ n, (pl own s.a).1 = n := ⟨_, rfl⟩
  have HQ : Hid (QvS r.ab (pl own s.a).2 (.slice p l c)) := o3
  have HN : Hid ((pl own s.a).1 = n) := hn
  rw [hn] at o1
  rw [hia] at c2 o1 o2
  rw [Int.toNat_natCast] at o1 o2
  have o1' := cell_old (A := zv) o1
  have o2' := cell_old (A := zv) o2
  have HE : Hid (reckG X.fs g d s own r.s = .ok (pl own s.a, r.s)) := congrFun (rk_2 hc) _
  show Calls Tryd.prog 44 #[ptr X.P, .pointer (some ⟨b, o, none⟩), .slice (some ⟨ob, 0, none⟩) own.length own.length] w _
  generalize hG : RkP X w r d (reckG X.fs g d s own r.s) = G
  have HG : Hid (RkP X w r d (reckG X.fs g d s own r.s) = G) := hG
  rw [hk2]
  rw [hk2] at hk
  clear hs hst hc hX hG ha o1 o2 o3 hia hk2 ho hn
  go_enter Tryd.func44, Tryd.ntmps44
  go_wp2
  refine bodyPost_ret (v := vlA n (.slice p l c)) (by simp [results, Tryd.results44, go_sem]) rfl ?_
  rw [← HG.out, HE.out]
  exact ⟨r, d, HS.out.below (al_bel _ _), Fz.below (al_bel _ _), .inl ⟨pl own s.a, p, l, c, rfl, rfl, by rw [HN.out], HQ.out⟩⟩
theorem both_er {op : By} {a b : Int} {s : Sg} {k : Int} (h : (bothV op a b).2 = k) (h0 : k ≠ 0) : bothG op a b s = .error (k, s.out) := by
  unfold bothG
  rw [if_pos (by rw [h]; exact h0), h]
  rfl
theorem both_ok {op : By} {a b : Int} {s : Sg} (h : (bothV op a b).2 = 0) : bothG op a b s = .ok ((bothV op a b).1, s) := by
  unfold bothG
  rw [if_neg (by rw [h]; simp)]
  rfl
set_option maxRecDepth 100000 in
set_option maxHeartbeats 2000000 in
theorem rk_two {X : Mx} (hX : MxOk X) {s : Ms} {b o : Nat} (hst : StepAt X.wc b o s) (hc : s.code = 3) {g d ob : Nat} {w : World} {r : Rs} {own : List Vl} (hs : Sm X.w0 X.P X.fv w r d) (ho : OwM w ob r.ab own) (ha : 0 ≤ s.a ∧ s.a < own.length) (hb : 0 ≤ s.b ∧ s.b < own.length) (hk : own.length ≤ 1000000) :
    Calls Tryd.prog 44 (rkA X b o ob own.length) w (RkP X w r d (reckG X.fs g d s own r.s)) := by
  have c0 := cell_old (A := zv) (hX.cell hs hst.c0)
  have c2 := cell_old (A := zv) (hX.cell hs hst.c2)
  have c3 := cell_old (A := zv) (hX.cell hs hst.c3)
  have c6 := cell_old (A := zv) (hX.cell hs hst.c6)
  rw [hc] at c0
  obtain ⟨q, o1, -, -⟩ := ho.get ha.1 ha.2
  obtain ⟨q', u1, -, -⟩ := ho.get hb.1 hb.2
  have HS : Hid (Sm X.w0 X.P X.fv w r d) := hs
  obtain ⟨ia, hia⟩ : ∃ ia : Nat, s.a = ia := ⟨s.a.toNat, by omega⟩
  obtain ⟨ib, hib⟩ : ∃ ib : Nat, s.b = ib := ⟨s.b.toNat, by omega⟩
  obtain ⟨k, hk2⟩ : ∃ k, own.length = k := ⟨_, rfl⟩
  have hlt : ia < k := by omega
  have hlt2 : ib < k := by omega
  obtain ⟨n, hn⟩ : ∃ n, (pl own s.a).1 = n := ⟨_, rfl⟩
  obtain ⟨m, hm⟩ : ∃ m, (pl own s.b).1 = m := ⟨_, rfl⟩
  rw [hn] at o1
  rw [hm] at u1
  rw [hia] at c2 o1
  rw [hib] at c3 u1
  rw [Int.toNat_natCast] at o1 u1
  have o1' := cell_old (A := zv) o1
  have u1' := cell_old (A := zv) u1
  obtain ⟨y, hy⟩ : ∃ y : ByteArray, (⟨s.op.toArray⟩ : ByteArray) = y := ⟨_, rfl⟩
  rw [hy] at c6
  have hyl : y.data.toList = s.op := by rw [← hy]
  obtain ⟨n1, hn1⟩ : ∃ n1, (bothV s.op n m).1 = n1 := ⟨_, rfl⟩
  obtain ⟨n2, hn2⟩ : ∃ n2, (bothV s.op n m).2 = n2 := ⟨_, rfl⟩
  have HB : Hid (∀ W, Calls Tryd.prog 7 #[.string y, .int .i64 n, .int .i64 m] W fun e w' => e = .returned (.tuple #[.int .i64 n1, .int .i64 n2]) ∧ w' = W) := fun W => by
    have := both_any y n m W
    rw [hyl] at this
    refine this.mono ?_
    rintro e w' ⟨rfl, rfl⟩
    exact ⟨by rw [hn1, hn2], rfl⟩
  have HV : Hid ((bothV s.op n m).1 = n1 ∧ (bothV s.op n m).2 = n2) := ⟨hn1, hn2⟩
  have HE : Hid (reckG X.fs g d s own r.s = (gb (bothG s.op n m) fun n => gp (n, none)) r.s) := by rw [← hn, ← hm]; exact congrFun (rk_3 hc) _
  show Calls Tryd.prog 44 #[ptr X.P, .pointer (some ⟨b, o, none⟩), .slice (some ⟨ob, 0, none⟩) own.length own.length] w _
  generalize hG : RkP X w r d (reckG X.fs g d s own r.s) = G
  have HG : Hid (RkP X w r d (reckG X.fs g d s own r.s) = G) := hG
  rw [hk2]
  rw [hk2] at hk
  clear hs hst hc hX hG ha hb o1 u1 hia hib hk2 ho hn hm hy hyl hn1 hn2
  go_enter Tryd.func44, Tryd.ntmps44
  go_wp2_with fail
  go_quiet ((go_at_call 7; exact Calls.quiet_of_same (HB.out _)))
  obtain ⟨W1, hW1⟩ : ∃ W1, W1 = (w.alloc zv).drewN nq := ⟨_, rfl⟩
  have hb1 : Below (w.alloc zv).heap.size (w.alloc zv) W1 := by rw [hW1]; exact drewN_bel _ _
  have HF2 : Hid (Sm X.w0 X.P X.fv W1 r d ∧ Fz X.P NoE (w.alloc zv) r W1 r) := ⟨(HS.out.below (al_bel _ _)).below hb1, Fz.below hb1⟩
  have hk2 := (r0_kept HS.out HF2.out.2).1
  have b1 := cell_at (i := 0) hk2 rfl
  have b2 := cell_at (i := 1) hk2 rfl
  have b3 := row_free hk2 0
  have b4 := row_free hk2 1
  rw [← hW1]
  clear hW1 hb1 hk2 c0 c2 c3 c6 o1' u1'
  by_cases h0 : n2 = 0
  · subst h0
    go_wp2_with (go_at_call 40; fail)
    obtain ⟨e1, e2⟩ := rk_put (y := (n1, none)) (p := none) (l := 0) (c := 0) HS.out HF2.out.1 HF2.out.2 rfl
    refine bodyPost_ret (res179 Tryd.results44 _ _ w.heap.size _ _ rfl e1) rfl ?_
    rw [← HG.out, HE.out, gb_o (both_ok HV.out.2), HV.out.1]
    exact e2
  · have hd : (n2 != 0) = true := by simpa using h0
    have H0 : Hid (n2 ≠ 0) := h0
    clear h0
    go_wp2_with (go_at_call 40; refine (rthrow_any _ _).mono ?_; rintro e w' ⟨rfl, rfl⟩)
    refine ⟨rfl, ?_⟩
    rw [← HG.out, HE.out, gb_e (both_er HV.out.2 H0.out)]
    exact rk_end HF2.out.1 HF2.out.2
end Go.Proofs.YtjmbjpimabnohaaDoor.Mid
