/- The document's run of steps: step at Two. -/
import Derived.Test.YtjmbjpimabnohaaDoorUG
import Derived.Test.YtjmbjpimabnohaaDoorUJ
import Derived.Deep.RegionHeld3
namespace Go.Proofs.YtjmbjpimabnohaaDoor.Mid
set_option linter.unusedVariables false
set_option linter.unusedSimpArgs false
open Go Go.RowKit

theorem both_way (op : By) (a b : Int) : (bothV op a b).2 = 0 ∨ (bothV op a b).2 = 2 := by
  unfold bothV
  repeat' split
  all_goals simp
section
variable {X : Qx} {F : Mf} {fs : By → Option Mf} {w : World} {r : Rr} {g d ob : Nat} {o : List Vl} {s : Ms} {ql : Option Addr} {nl cl : Nat} {y6 y8 : ByteArray} {qa : Option Addr} {na ca : Nat}
theorem do_3 (h : s.code = 3) : doG fs g d s o r.s = (gb (bothG s.op (pl o s.a).1 (pl o s.b).1) fun n => gp (o.set s.dst.toNat (n, none))) r.s := by
  unfold doG reckG; rw [h]
  simp only [gb, gp]
  rw [if_neg (by decide), if_neg (by decide), if_neg (by decide), if_neg (by decide), if_pos trivial]
  simp only [gb, gp]
  cases bothG s.op (pl o s.a).1 (pl o s.b).1 r.s <;> rfl
set_option maxRecDepth 100000 in
set_option maxHeartbeats 4000000 in
theorem sg_two (h : SgE X F w r d ob o) (hc : s.code = 3) (hop : y6.data.toList = s.op) (hd : isB F s.dst 1 = true) (ha : isB F s.a 1 = true) (hb : isB F s.b 1 = true) (hIa : I64 (pl o s.a).1) (hIb : I64 (pl o s.b).1) : Calls Tryd.prog 48 (sgA X ql nl cl ob o.length s y6 y8 qa na ca) w (SgP X F w r d ob (doG fs g d s o r.s)) := by
  have hdo := do_3 (fs := fs) (g := g) (d := d) (o := o) (r := r) hc
  obtain ⟨code, dst, a, b, c, n, op, label, name, args⟩ := s
  dsimp only at hc hd ha hb hdo hop hIa hIb
  subst hc
  subst hop
  obtain ⟨j, rfl, h1, hty⟩ := is_get hd
  rw [Int.toNat_natCast] at hdo
  have hax := ha
  obtain ⟨i, rfl, h5, _⟩ := is_get ha
  have hbx := hb
  obtain ⟨m, rfl, h6, _⟩ := is_get hb
  obtain ⟨A, hA⟩ : ∃ A : Obj, A = .cells #[.int .i64 3, .int .i64 (j : Int), .int .i64 (i : Int), .int .i64 (m : Int), .int .i64 c, .int .i64 n, .string y6, .int .i64 label, .string y8, .slice qa na ca] 58 := ⟨_, rfl⟩
  have h' := h.al A
  obtain ⟨i2, e2, k2, k3, k4, k5⟩ := h'.ow.get hax
  have e2' : i2 = i := by omega
  subst e2'
  obtain ⟨m2, e2, p2, p3, p4, _⟩ := h'.ow.get hbx
  have e2' : m2 = m := by omega
  subst e2'
  have hbox : (w.alloc A).heap[w.heap.size]? = some A := heap_alloc_last _ _
  have hnb : w.heap.size ≠ ob := fun e => by have := h.ow.lt; omega
  obtain ⟨av, hav⟩ : ∃ av, (pl o (i2 : Int)).1 = av := ⟨_, rfl⟩
  obtain ⟨bv, hbv⟩ : ∃ bv, (pl o (m2 : Int)).1 = bv := ⟨_, rfl⟩
  have k3' : (w.alloc A).drew.cell? ⟨ob, i2, none⟩ = some (.int .i64 av) := by rw [← hav]; exact k3
  have p3' : (w.alloc A).drew.cell? ⟨ob, m2, none⟩ = some (.int .i64 bv) := by rw [← hbv]; exact p3
  rw [hav] at hIa
  rw [hbv] at hIb
  rw [hav, hbv] at hdo
  obtain ⟨op, hopn⟩ : ∃ op, y6.data.toList = op := ⟨_, rfl⟩
  have hway := both_way op av bv
  obtain ⟨v, hv⟩ : ∃ v, (bothV op av bv).1 = v := ⟨_, rfl⟩
  obtain ⟨k, hk⟩ : ∃ k, (bothV op av bv).2 = k := ⟨_, rfl⟩
  rw [hk] at hway
  have HIn : Hid (∀ W, W = (w.alloc A).drew → Calls Tryd.prog 6 #[.string y6, .int .i64 av, .int .i64 bv] W (fun e w2 => ∃ zv, e = .returned (.tuple #[.int .i64 v, .int .i64 k]) ∧ (w2.cell? ⟨w.heap.size, 1, none⟩ = some (.int .i64 (j : Int)) ∧ w2.cell? ⟨w.heap.size, 2, none⟩ = some (.int .i64 (i2 : Int)) ∧ w2.cell? ⟨w.heap.size, 3, none⟩ = some (.int .i64 (m2 : Int)) ∧ w2.cell? ⟨w.heap.size, 6, none⟩ = some (.string y6)) ∧ w2.cell? ⟨ob, j, none⟩ = some zv ∧ w2.frozen? ⟨ob, j, none⟩ = false ∧ Wm X.w0 X.P (w2.setCell ⟨ob, j, none⟩ (.int .i64 v)) r d 0 ∧ Wz X.P (fun b => b = ob) w r (w2.setCell ⟨ob, j, none⟩ (.int .i64 v)) r ∧ OwR X.P (w2.setCell ⟨ob, j, none⟩ (.int .i64 v)) r ob F (o.set j (v, none)))) := fun W hW => by
    subst hW
    refine (bothD_any y6 av bv _ hIa.1 hIa.2 hIb.1 hIb.2).mono ?_
    rintro e w2 ⟨rfl, nn, hw2⟩
    have hbb : Below (w.alloc A).heap.size (w.alloc A) w2 := by
      rw [hw2]
      exact (Below.refl _ (w.alloc A)).drew.trans (drewN_bel (w.alloc A).drew nn)
    have hbx2 : w2.heap[w.heap.size]? = some A := by rw [hbb.block _ (by simp)]; exact hbox
    have hwm := h'.wm.below hbb
    have how := h'.ow.on (E := NoE) (Wz.below hbb) (fun e => e)
    obtain ⟨j2, e2, q1, q2, q3, _⟩ := how.get hd
    have e2' : j2 = j := by omega
    subst e2'
    rw [hopn, hv, hk]
    exact ⟨_, rfl, ⟨cell_at (i := 1) (by rw [hbx2, hA]) rfl, cell_at (i := 2) (by rw [hbx2, hA]) rfl, cell_at (i := 3) (by rw [hbx2, hA]) rfl, cell_at (i := 6) (by rw [hbx2, hA]) rfl⟩, q2, q3, hwm.setL how.nx h.lo, ((Wz.below (al_bel w A)).trans (Wz.below hbb)).setE, how.put (t := 1) (x := (v, none)) hty (fun e => by cases e)⟩
  have HS : Hid ((w.alloc A).drew.cell? ⟨w.heap.size, 1, none⟩ = some (.int .i64 (j : Int)) ∧ (w.alloc A).drew.cell? ⟨w.heap.size, 2, none⟩ = some (.int .i64 (i2 : Int)) ∧ (w.alloc A).drew.cell? ⟨w.heap.size, 3, none⟩ = some (.int .i64 (m2 : Int)) ∧ (w.alloc A).drew.cell? ⟨w.heap.size, 6, none⟩ = some (.string y6)) := by
    have hb0 : (w.alloc A).drew.heap[w.heap.size]? = some A := hbox
    exact ⟨cell_at (i := 1) (by rw [hb0, hA]) rfl, cell_at (i := 2) (by rw [hb0, hA]) rfl, cell_at (i := 3) (by rw [hb0, hA]) rfl, cell_at (i := 6) (by rw [hb0, hA]) rfl⟩
  have HF0 : Hid (∀ w3, k = 0 → Wm X.w0 X.P w3 r d 0 → Wz X.P (fun b => b = ob) w r w3 r → OwR X.P w3 r ob F (o.set j (v, none)) → SgP X F w r d ob (doG fs g d ⟨3, (j : Int), (i2 : Int), (m2 : Int), c, n, y6.data.toList, label, name, args⟩ o r.s) (.returned (.tuple #[])) w3) := fun w3 hk0 z1 z2 z3 => by
    refine ⟨rfl, r, 0, z1, z2, .inl ⟨_, rfl, ?_, z3⟩⟩
    rw [hdo, hopn]
    show gb _ _ _ = _
    unfold bothG
    rw [hk, if_neg (by simp [hk0]), hv]
    rfl
  have HF2 : Hid (∀ w3 w4, k = 2 → Wz X.P (fun b => b = ob) w r w3 r → EnP X w3 r d 2 (.returned (.tuple #[])) w4 → SgP X F w r d ob (doG fs g d ⟨3, (j : Int), (i2 : Int), (m2 : Int), c, n, y6.data.toList, label, name, args⟩ o r.s) (.returned (.tuple #[])) w4) := fun w3 w4 hk0 z2 z3 => by
    obtain ⟨_, z4, z5⟩ := z3
    refine ⟨rfl, r, 2, z4, z2.trans z5.no, .inr ⟨by decide, ?_⟩⟩
    rw [hdo, hopn]
    show gb _ _ _ = _
    unfold bothG
    rw [hk, if_pos (by simp [hk0]), hk0]
    rfl
  obtain ⟨kl, hkl⟩ : ∃ kl, o.length = kl := ⟨_, rfl⟩
  have hk6 := h.kl
  have hjl : j < o.length := by rw [h.ow.len]; exact h1
  generalize SgP X F w r d ob (doG fs g d ⟨3, (j : Int), (i2 : Int), (m2 : Int), c, n, y6.data.toList, label, name, args⟩ o r.s) = G at HF0 HF2 ⊢
  show Calls Tryd.prog 48 #[ptr X.P, .slice ql nl cl, .slice (some ⟨ob, 0, none⟩) o.length o.length, .agg #[.int .i64 3, .int .i64 (j : Int), .int .i64 (i2 : Int), .int .i64 (m2 : Int), .int .i64 c, .int .i64 n, .string y6, .int .i64 label, .string y8, .slice qa na ca]] w G
  rw [hkl] at hjl hk6 k2 p2 ⊢
  have hl9 : (m2 : Int) < (kl : Int) := by omega
  have hl8 : (i2 : Int) < (kl : Int) := by omega
  have hl7 : (j : Int) < (kl : Int) := by omega
  rw [hA] at HIn k3' p3' HS
  have hnb2 : ob ≠ w.heap.size := fun e => hnb e.symm
  clear h h' hA hkl hd hdo hav hbv hty h1 ha hax k3 k4 h5 hb hbx h6 p3 p4 hbox k5 hIa hIb hopn hv hk hnb
  go_enter Tryd.func48, Tryd.ntmps48
  go_wp2_with fail
  refine wp_region_held_drew (S := (fun w' => w'.cell? ⟨w.heap.size, 1, none⟩ = some (.int .i64 (j : Int)) ∧ w'.cell? ⟨w.heap.size, 2, none⟩ = some (.int .i64 (i2 : Int)) ∧ w'.cell? ⟨w.heap.size, 3, none⟩ = some (.int .i64 (m2 : Int)) ∧ w'.cell? ⟨w.heap.size, 6, none⟩ = some (.string y6))) (by kernel_rfl) ?_ (fun hHeld => ?_)
  · exact HS.out
  refine wpAnyH_take (i := 0) (v := ?val0q1) rfl (by kernel_rfl) (by kernel_rfl) (by kernel_rfl) (fun _ _ _ h => h) (Or.inl ⟨by rfl, ?hy0q1⟩) hHeld ?go0q1
  case hy0q1 => (intro w hSw; (try dsimp only at hSw); (try (obtain ⟨z1, z2, z3, z4⟩ := hSw)); go_simp; try rfl)
  case go0q1 =>
  simp only [Act.put, List.setIfInBounds_toArray, List.set_cons_zero, List.set_cons_succ, List.getElem_toArray, List.getElem_cons_zero, List.getElem_cons_succ]
  refine wpAnyH_take (i := 1) (v := ?val1q2) rfl (by kernel_rfl) (by kernel_rfl) (by kernel_rfl) (fun _ _ _ h => h) (Or.inl ⟨by rfl, ?hy1q2⟩) hHeld ?go1q2
  case hy1q2 => (intro w hSw; (try dsimp only at hSw); (try (obtain ⟨z1, z2, z3, z4⟩ := hSw)); go_simp; try rfl)
  case go1q2 =>
  simp only [Act.put, List.setIfInBounds_toArray, List.set_cons_zero, List.set_cons_succ, List.getElem_toArray, List.getElem_cons_zero, List.getElem_cons_succ]
  refine wpAnyH_take (i := 2) (v := ?val2q3) rfl (by kernel_rfl) (by kernel_rfl) (by kernel_rfl) (fun _ _ _ h => h) (Or.inl ⟨by rfl, ?hy2q3⟩) hHeld ?go2q3
  case hy2q3 => (intro w hSw; (try dsimp only at hSw); (try (obtain ⟨z1, z2, z3, z4⟩ := hSw)); go_simp; try rfl)
  case go2q3 =>
  simp only [Act.put, List.setIfInBounds_toArray, List.set_cons_zero, List.set_cons_succ, List.getElem_toArray, List.getElem_cons_zero, List.getElem_cons_succ]
  refine wpAnyH_take (i := 3) (v := ?val3q4) rfl (by kernel_rfl) (by kernel_rfl) (by kernel_rfl) (fun _ _ _ h => h) (Or.inl ⟨by rfl, ?hy3q4⟩) hHeld ?go3q4
  case hy3q4 => (intro w hSw; (try dsimp only at hSw); (try (obtain ⟨z1, z2, z3, z4⟩ := hSw)); go_simp; try rfl)
  case go3q4 =>
  simp only [Act.put, List.setIfInBounds_toArray, List.set_cons_zero, List.set_cons_succ, List.getElem_toArray, List.getElem_cons_zero, List.getElem_cons_succ]
  refine wpAnyH_take (i := 4) (v := ?val4q5) rfl (by kernel_rfl) (by kernel_rfl) (by kernel_rfl) (fun _ _ _ h => h) (Or.inl ⟨by rfl, ?hy4q5⟩) hHeld ?go4q5
  case hy4q5 => (intro w hSw; (try dsimp only at hSw); (try (obtain ⟨z1, z2, z3, z4⟩ := hSw)); go_simp; try rfl)
  case go4q5 =>
  simp only [Act.put, List.setIfInBounds_toArray, List.set_cons_zero, List.set_cons_succ, List.getElem_toArray, List.getElem_cons_zero, List.getElem_cons_succ]
  refine wpAnyH_take (i := 5) (v := ?val5q6) rfl (by kernel_rfl) (by kernel_rfl) (by kernel_rfl) (fun _ _ _ h => h) (Or.inl ⟨by rfl, ?hy5q6⟩) hHeld ?go5q6
  case hy5q6 => (intro w hSw; (try dsimp only at hSw); (try (obtain ⟨z1, z2, z3, z4⟩ := hSw)); go_simp; try rfl)
  case go5q6 =>
  simp only [Act.put, List.setIfInBounds_toArray, List.set_cons_zero, List.set_cons_succ, List.getElem_toArray, List.getElem_cons_zero, List.getElem_cons_succ]
  refine wpAnyH_take (i := 6) (v := ?val6q7) rfl (by kernel_rfl) (by kernel_rfl) (by kernel_rfl) (fun _ _ _ h => h) (Or.inl ⟨by rfl, ?hy6q7⟩) hHeld ?go6q7
  case hy6q7 => (intro w hSw; (try dsimp only at hSw); (try (obtain ⟨z1, z2, z3, z4⟩ := hSw)); go_simp; try rfl)
  case go6q7 =>
  simp only [Act.put, List.setIfInBounds_toArray, List.set_cons_zero, List.set_cons_succ, List.getElem_toArray, List.getElem_cons_zero, List.getElem_cons_succ]
  refine wpAnyH_take (i := 7) (v := ?val7q8) rfl (by kernel_rfl) (by kernel_rfl) (by kernel_rfl) (fun _ _ _ h => h) (Or.inl ⟨by rfl, ?hy7q8⟩) hHeld ?go7q8
  case hy7q8 => (intro w hSw; (try dsimp only at hSw); (try (obtain ⟨z1, z2, z3, z4⟩ := hSw)); go_simp; try rfl)
  case go7q8 =>
  simp only [Act.put, List.setIfInBounds_toArray, List.set_cons_zero, List.set_cons_succ, List.getElem_toArray, List.getElem_cons_zero, List.getElem_cons_succ]
  refine wpAnyH_take (i := 8) (v := ?val8q9) rfl (by kernel_rfl) (by kernel_rfl) (by kernel_rfl) (fun _ _ _ h => h) (Or.inl ⟨by rfl, ?hy8q9⟩) hHeld ?go8q9
  case hy8q9 => (intro w hSw; (try dsimp only at hSw); (try (obtain ⟨z1, z2, z3, z4⟩ := hSw)); go_simp; try rfl)
  case go8q9 =>
  simp only [Act.put, List.setIfInBounds_toArray, List.set_cons_zero, List.set_cons_succ, List.getElem_toArray, List.getElem_cons_zero, List.getElem_cons_succ]
  refine wpAnyH_take (i := 10) (v := ?val10q10) rfl (by kernel_rfl) (by kernel_rfl) (by kernel_rfl) (fun _ _ _ h => h) (Or.inl ⟨by rfl, ?hy10q10⟩) hHeld ?go10q10
  case hy10q10 => (intro w hSw; (try dsimp only at hSw); (try (obtain ⟨z1, z2, z3, z4⟩ := hSw)); go_simp; try rfl)
  case go10q10 =>
  simp only [Act.put, List.setIfInBounds_toArray, List.set_cons_zero, List.set_cons_succ, List.getElem_toArray, List.getElem_cons_zero, List.getElem_cons_succ]
  refine wpAnyH_take (i := 11) (v := ?val11q11) rfl (by kernel_rfl) (by kernel_rfl) (by kernel_rfl) (fun _ _ _ h => h) (Or.inl ⟨by rfl, ?hy11q11⟩) hHeld ?go11q11
  case hy11q11 => (intro w hSw; (try dsimp only at hSw); (try (obtain ⟨z1, z2, z3, z4⟩ := hSw)); go_simp; try rfl)
  case go11q11 =>
  simp only [Act.put, List.setIfInBounds_toArray, List.set_cons_zero, List.set_cons_succ, List.getElem_toArray, List.getElem_cons_zero, List.getElem_cons_succ]
  refine wpAnyH_take (i := 12) (v := ?val12q12) rfl (by kernel_rfl) (by kernel_rfl) (by kernel_rfl) (fun _ _ _ h => h) (Or.inl ⟨by rfl, ?hy12q12⟩) hHeld ?go12q12
  case hy12q12 => (intro w hSw; (try dsimp only at hSw); (try (obtain ⟨z1, z2, z3, z4⟩ := hSw)); go_simp; try rfl)
  case go12q12 =>
  simp only [Act.put, List.setIfInBounds_toArray, List.set_cons_zero, List.set_cons_succ, List.getElem_toArray, List.getElem_cons_zero, List.getElem_cons_succ]
  refine wpAnyH_take (i := 13) (v := ?val13q13) rfl (by kernel_rfl) (by kernel_rfl) (by kernel_rfl) (fun _ _ _ h => h) (Or.inl ⟨by rfl, ?hy13q13⟩) hHeld ?go13q13
  case hy13q13 => (intro w hSw; (try dsimp only at hSw); (try (obtain ⟨z1, z2, z3, z4⟩ := hSw)); go_simp; try rfl)
  case go13q13 =>
  simp only [Act.put, List.setIfInBounds_toArray, List.set_cons_zero, List.set_cons_succ, List.getElem_toArray, List.getElem_cons_zero, List.getElem_cons_succ]
  refine wpAnyH_ready (rs := [9, 14]) (by kernel_rfl) (by simp) ?_
  refine AllReadyH.cons rfl (fun K hK => ?_) (AllReadyH.cons rfl (fun K hK => ?_) AllReadyH.nil)
  · go_simp
    refine hK.out _ _ hHeld (fun hHeld2 => ?_)
    clear hK K
    try simp only [Act.put, List.setIfInBounds_toArray, List.set_cons_zero, List.set_cons_succ, List.getElem_toArray, List.getElem_cons_zero, List.getElem_cons_succ]
    refine wpAnyH_ready (rs := [14]) (by kernel_rfl) (by simp) ?_
    refine AllReadyH.cons rfl (fun K hK => ?_) AllReadyH.nil
    go_simp
    refine hK.out _ _ hHeld (fun hHeld3 => ?_)
    clear hK K
    try simp only [Act.put, List.setIfInBounds_toArray, List.set_cons_zero, List.set_cons_succ, List.getElem_toArray, List.getElem_cons_zero, List.getElem_cons_succ]
    refine wpAnyH_ready (rs := [15]) (by kernel_rfl) (by simp) ?_
    refine AllReadyH.cons rfl (fun K hK => ?_) AllReadyH.nil
    go_simp
    refine (HIn.out _ rfl).mono ?_
    rintro e w2 ⟨zv, rfl, hG2, z2, z3, z4⟩
    have HZ : Hid _ := z4
    clear z4
    go_simp
    refine hK.out _ _ hG2 (fun hHeld4 => ?_)
    clear hK K
    try simp only [Act.put, List.setIfInBounds_toArray, List.set_cons_zero, List.set_cons_succ, List.getElem_toArray, List.getElem_cons_zero, List.getElem_cons_succ]
    refine wpAnyH_take (i := 16) (v := ?val16q14) rfl (by kernel_rfl) (by kernel_rfl) (by kernel_rfl) (fun _ _ _ h => h) (Or.inl ⟨by rfl, ?hy16q14⟩) hG2 ?go16q14
    case hy16q14 => (intro w hSw; (try dsimp only at hSw); (try (obtain ⟨z1, z2, z3, z4⟩ := hSw)); go_simp; try rfl)
    case go16q14 =>
    simp only [Act.put, List.setIfInBounds_toArray, List.set_cons_zero, List.set_cons_succ, List.getElem_toArray, List.getElem_cons_zero, List.getElem_cons_succ]
    refine wpAnyH_take (i := 17) (v := ?val17q15) rfl (by kernel_rfl) (by kernel_rfl) (by kernel_rfl) (fun _ _ _ h => h) (Or.inl ⟨by rfl, ?hy17q15⟩) hG2 ?go17q15
    case hy17q15 => (intro w hSw; (try dsimp only at hSw); (try (obtain ⟨z1, z2, z3, z4⟩ := hSw)); go_simp; try rfl)
    case go17q15 =>
    simp only [Act.put, List.setIfInBounds_toArray, List.set_cons_zero, List.set_cons_succ, List.getElem_toArray, List.getElem_cons_zero, List.getElem_cons_succ]
    refine wpAnyH_take (i := 18) (v := ?val18q16) rfl (by kernel_rfl) (by kernel_rfl) (by kernel_rfl) (fun _ _ _ h => h) (Or.inl ⟨by rfl, ?hy18q16⟩) hG2 ?go18q16
    case hy18q16 => (intro w hSw; (try dsimp only at hSw); (try (obtain ⟨z1, z2, z3, z4⟩ := hSw)); go_simp; try rfl)
    case go18q16 =>
    simp only [Act.put, List.setIfInBounds_toArray, List.set_cons_zero, List.set_cons_succ, List.getElem_toArray, List.getElem_cons_zero, List.getElem_cons_succ]
    refine wpAnyH_take (i := 19) (v := ?val19q17) rfl (by kernel_rfl) (by kernel_rfl) (by kernel_rfl) (fun _ _ _ h => h) (Or.inl ⟨by rfl, ?hy19q17⟩) hG2 ?go19q17
    case hy19q17 => (intro w hSw; (try dsimp only at hSw); (try (obtain ⟨z1, z2, z3, z4⟩ := hSw)); go_simp; try rfl)
    case go19q17 =>
    simp only [Act.put, List.setIfInBounds_toArray, List.set_cons_zero, List.set_cons_succ, List.getElem_toArray, List.getElem_cons_zero, List.getElem_cons_succ]
    refine wpAnyH_ready (rs := [20]) (by kernel_rfl) (by simp) ?_
    refine AllReadyH.cons rfl (fun K hK => ?_) AllReadyH.nil
    go_simp
    refine hK.out _ _ ?_ (fun hHeld5 => ?_)
    · obtain ⟨g1, g2, g3, g4⟩ := hG2
      refine ⟨?_, ?_, ?_, ?_⟩ <;> (rw [World.cell?_setCell_far _ _ _ _ hnb2]; assumption)
    clear hK K
    try simp only [Act.put, List.setIfInBounds_toArray, List.set_cons_zero, List.set_cons_succ, List.getElem_toArray, List.getElem_cons_zero, List.getElem_cons_succ]
    refine wpAnyH_take (i := 21) (v := ?val21q18) rfl (by kernel_rfl) (by kernel_rfl) (by kernel_rfl) (fun _ _ _ h => h) (Or.inl ⟨by rfl, ?hy21q18⟩) hHeld5 ?go21q18
    case hy21q18 => (intro w hSw; (try dsimp only at hSw); (try (obtain ⟨z1, z2, z3, z4⟩ := hSw)); go_simp; try rfl)
    case go21q18 =>
    simp only [Act.put, List.setIfInBounds_toArray, List.set_cons_zero, List.set_cons_succ, List.getElem_toArray, List.getElem_cons_zero, List.getElem_cons_succ]
    refine wpAnyH_done (by kernel_rfl) ?_ _
    clear hHeld hHeld2 hHeld3 hHeld4 hHeld5 hG2
    rcases hway with rfl | rfl
    · have HX : Hid (G (.returned (.tuple #[])) (w2.setCell ⟨ob, j, none⟩ (.int .i64 v))) := HF0.out _ rfl HZ.out.1 HZ.out.2.1 HZ.out.2.2
      clear HF0 HF2
      go_wp2
      go_end0
      exact HX.out
    · have HC : Hid (Calls Tryd.prog 59 #[ptr X.P, .int .i64 2] (w2.setCell ⟨ob, j, none⟩ (.int .i64 v)) (EnP X (w2.setCell ⟨ob, j, none⟩ (.int .i64 v)) r d 2)) := ends_any X _ r d 0 2 HZ.out.1
      have HY : Hid (∀ w4, EnP X (w2.setCell ⟨ob, j, none⟩ (.int .i64 v)) r d 2 (.returned (.tuple #[])) w4 → G (.returned (.tuple #[])) w4) := fun w4 hq => HF2.out _ w4 rfl HZ.out.2.1 hq
      clear HF0 HF2
      go_wp2_with (go_at_call 59; fail)
      refine HC.out.mono ?_
      rintro e w4 hq
      obtain ⟨rfl, hq2⟩ := id hq
      have HX : Hid (G (.returned (.tuple #[])) w4) := HY.out w4 hq
      clear hq hq2
      go_wp2
      go_end0
      exact HX.out
  · go_simp
    refine hK.out _ _ hHeld (fun hHeld2 => ?_)
    clear hK K
    try simp only [Act.put, List.setIfInBounds_toArray, List.set_cons_zero, List.set_cons_succ, List.getElem_toArray, List.getElem_cons_zero, List.getElem_cons_succ]
    refine wpAnyH_ready (rs := [9]) (by kernel_rfl) (by simp) ?_
    refine AllReadyH.cons rfl (fun K hK => ?_) AllReadyH.nil
    go_simp
    refine hK.out _ _ hHeld (fun hHeld3 => ?_)
    clear hK K
    try simp only [Act.put, List.setIfInBounds_toArray, List.set_cons_zero, List.set_cons_succ, List.getElem_toArray, List.getElem_cons_zero, List.getElem_cons_succ]
    refine wpAnyH_ready (rs := [15]) (by kernel_rfl) (by simp) ?_
    refine AllReadyH.cons rfl (fun K hK => ?_) AllReadyH.nil
    go_simp
    refine (HIn.out _ rfl).mono ?_
    rintro e w2 ⟨zv, rfl, hG2, z2, z3, z4⟩
    have HZ : Hid _ := z4
    clear z4
    go_simp
    refine hK.out _ _ hG2 (fun hHeld4 => ?_)
    clear hK K
    try simp only [Act.put, List.setIfInBounds_toArray, List.set_cons_zero, List.set_cons_succ, List.getElem_toArray, List.getElem_cons_zero, List.getElem_cons_succ]
    refine wpAnyH_take (i := 16) (v := ?val16q19) rfl (by kernel_rfl) (by kernel_rfl) (by kernel_rfl) (fun _ _ _ h => h) (Or.inl ⟨by rfl, ?hy16q19⟩) hG2 ?go16q19
    case hy16q19 => (intro w hSw; (try dsimp only at hSw); (try (obtain ⟨z1, z2, z3, z4⟩ := hSw)); go_simp; try rfl)
    case go16q19 =>
    simp only [Act.put, List.setIfInBounds_toArray, List.set_cons_zero, List.set_cons_succ, List.getElem_toArray, List.getElem_cons_zero, List.getElem_cons_succ]
    refine wpAnyH_take (i := 17) (v := ?val17q20) rfl (by kernel_rfl) (by kernel_rfl) (by kernel_rfl) (fun _ _ _ h => h) (Or.inl ⟨by rfl, ?hy17q20⟩) hG2 ?go17q20
    case hy17q20 => (intro w hSw; (try dsimp only at hSw); (try (obtain ⟨z1, z2, z3, z4⟩ := hSw)); go_simp; try rfl)
    case go17q20 =>
    simp only [Act.put, List.setIfInBounds_toArray, List.set_cons_zero, List.set_cons_succ, List.getElem_toArray, List.getElem_cons_zero, List.getElem_cons_succ]
    refine wpAnyH_take (i := 18) (v := ?val18q21) rfl (by kernel_rfl) (by kernel_rfl) (by kernel_rfl) (fun _ _ _ h => h) (Or.inl ⟨by rfl, ?hy18q21⟩) hG2 ?go18q21
    case hy18q21 => (intro w hSw; (try dsimp only at hSw); (try (obtain ⟨z1, z2, z3, z4⟩ := hSw)); go_simp; try rfl)
    case go18q21 =>
    simp only [Act.put, List.setIfInBounds_toArray, List.set_cons_zero, List.set_cons_succ, List.getElem_toArray, List.getElem_cons_zero, List.getElem_cons_succ]
    refine wpAnyH_take (i := 19) (v := ?val19q22) rfl (by kernel_rfl) (by kernel_rfl) (by kernel_rfl) (fun _ _ _ h => h) (Or.inl ⟨by rfl, ?hy19q22⟩) hG2 ?go19q22
    case hy19q22 => (intro w hSw; (try dsimp only at hSw); (try (obtain ⟨z1, z2, z3, z4⟩ := hSw)); go_simp; try rfl)
    case go19q22 =>
    simp only [Act.put, List.setIfInBounds_toArray, List.set_cons_zero, List.set_cons_succ, List.getElem_toArray, List.getElem_cons_zero, List.getElem_cons_succ]
    refine wpAnyH_ready (rs := [20]) (by kernel_rfl) (by simp) ?_
    refine AllReadyH.cons rfl (fun K hK => ?_) AllReadyH.nil
    go_simp
    refine hK.out _ _ ?_ (fun hHeld5 => ?_)
    · obtain ⟨g1, g2, g3, g4⟩ := hG2
      refine ⟨?_, ?_, ?_, ?_⟩ <;> (rw [World.cell?_setCell_far _ _ _ _ hnb2]; assumption)
    clear hK K
    try simp only [Act.put, List.setIfInBounds_toArray, List.set_cons_zero, List.set_cons_succ, List.getElem_toArray, List.getElem_cons_zero, List.getElem_cons_succ]
    refine wpAnyH_take (i := 21) (v := ?val21q23) rfl (by kernel_rfl) (by kernel_rfl) (by kernel_rfl) (fun _ _ _ h => h) (Or.inl ⟨by rfl, ?hy21q23⟩) hHeld5 ?go21q23
    case hy21q23 => (intro w hSw; (try dsimp only at hSw); (try (obtain ⟨z1, z2, z3, z4⟩ := hSw)); go_simp; try rfl)
    case go21q23 =>
    simp only [Act.put, List.setIfInBounds_toArray, List.set_cons_zero, List.set_cons_succ, List.getElem_toArray, List.getElem_cons_zero, List.getElem_cons_succ]
    refine wpAnyH_done (by kernel_rfl) ?_ _
    clear hHeld hHeld2 hHeld3 hHeld4 hHeld5 hG2
    rcases hway with rfl | rfl
    · have HX : Hid (G (.returned (.tuple #[])) (w2.setCell ⟨ob, j, none⟩ (.int .i64 v))) := HF0.out _ rfl HZ.out.1 HZ.out.2.1 HZ.out.2.2
      clear HF0 HF2
      go_wp2
      go_end0
      exact HX.out
    · have HC : Hid (Calls Tryd.prog 59 #[ptr X.P, .int .i64 2] (w2.setCell ⟨ob, j, none⟩ (.int .i64 v)) (EnP X (w2.setCell ⟨ob, j, none⟩ (.int .i64 v)) r d 2)) := ends_any X _ r d 0 2 HZ.out.1
      have HY : Hid (∀ w4, EnP X (w2.setCell ⟨ob, j, none⟩ (.int .i64 v)) r d 2 (.returned (.tuple #[])) w4 → G (.returned (.tuple #[])) w4) := fun w4 hq => HF2.out _ w4 rfl HZ.out.2.1 hq
      clear HF0 HF2
      go_wp2_with (go_at_call 59; fail)
      refine HC.out.mono ?_
      rintro e w4 hq
      obtain ⟨rfl, hq2⟩ := id hq
      have HX : Hid (G (.returned (.tuple #[])) w4) := HY.out w4 hq
      clear hq hq2
      go_wp2
      go_end0
      exact HX.out
end
end Go.Proofs.YtjmbjpimabnohaaDoor.Mid
