/- The document's run of steps: step at New, Len, Copy. -/
import Derived.Test.YtjmbjpimabnohaaDoorUF
namespace Go.Proofs.YtjmbjpimabnohaaDoor.Mid
set_option linter.unusedVariables false
set_option linter.unusedSimpArgs false
open Go Go.RowKit

section
variable {X : Qx} {F : Mf} {fs : By → Option Mf} {w : World} {r : Rr} {g d ob : Nat} {o : List Vl} {s : Ms} {ql : Option Addr} {nl cl : Nat} {y6 y8 : ByteArray} {qa : Option Addr} {na ca : Nat}
theorem do_10 (h : s.code = 10) : doG fs g d s o r.s = .ok (o.set s.dst.toNat (((arrOf r.s (pl o s.a).2).length : Int), none), r.s) := by unfold doG reckG; rw [h]; rfl
theorem do_2 (h : s.code = 2) : doG fs g d s o r.s = .ok (o.set s.dst.toNat (pl o s.a), r.s) := by unfold doG reckG; rw [h]; rfl
theorem Wz.undrew {P : Nat} {E : Nat → Prop} {w w' : World} {r r' : Rr} (h : Wz P E w.drew r w' r') : Wz P E w r w' r' := ⟨h.os, h.tape, h.output, h.size, h.blk, h.pre, h.new⟩
set_option maxRecDepth 100000 in
set_option maxHeartbeats 4000000 in
theorem sg_new (h : SgE X F w r d ob o) (hc : s.code = 9) (hd : isB F s.dst 2 = true) (ha : isB F s.a 1 = true) : Calls Tryd.prog 48 (sgA X ql nl cl ob o.length s y6 y8 qa na ca) w (SgP X F w r d ob (doG fs g d s o r.s)) := by
  have hdo := do_9 (fs := fs) (g := g) (d := d) (o := o) (r := r) hc
  obtain ⟨code, dst, a, b, c, n, op, label, name, args⟩ := s
  dsimp only at hc hd ha hdo
  subst hc
  obtain ⟨j, rfl, h1, hty⟩ := is_get hd
  rw [Int.toNat_natCast] at hdo
  have hax := ha
  obtain ⟨i, rfl, h5, _⟩ := is_get ha
  obtain ⟨A, hA⟩ : ∃ A : Obj, A = .cells #[.int .i64 9, .int .i64 (j : Int), .int .i64 (i : Int), .int .i64 b, .int .i64 c, .int .i64 n, .string y6, .int .i64 label, .string y8, .slice qa na ca] 58 := ⟨_, rfl⟩
  have h' := h.al A
  obtain ⟨i2, e2, k2, k3, k4, _⟩ := h'.ow.get hax
  have e2' : i2 = i := by omega
  subst e2'
  obtain ⟨nv, hnv⟩ : ∃ nv, (pl o (i2 : Int)).1 = nv := ⟨_, rfl⟩
  have k3' : (w.alloc A).drew.cell? ⟨ob, i2, none⟩ = some (.int .i64 nv) := by rw [← hnv]; exact k3
  have HIn : Hid (∀ W, W = (w.alloc A).drew → Calls Tryd.prog 60 #[ptr X.P, .int .i64 nv] W (fun e w2 => ∃ z, e = .returned (.int .i64 z) ∧ MkP X (w.alloc A) r d nv (.returned (.int .i64 z)) w2)) := fun W hW => by
    subst hW
    refine (make_any X _ r d nv (h'.wm.below (Below.refl _ _).drew) h.few).mono ?_
    rintro e w2 (⟨z1, rfl, z2, z3⟩ | ⟨z1, z2, rfl, b9, av, z3, z4⟩)
    · exact ⟨_, rfl, .inl ⟨z1, rfl, z2, z3.undrew⟩⟩
    · exact ⟨_, rfl, .inr ⟨z1, z2, rfl, b9, av, z3, z4.undrew⟩⟩
  have HFi : Hid (∀ w2 z, MkP X (w.alloc A) r d nv (.returned (.int .i64 z)) w2 → w2.cell? ⟨w.heap.size, 1, none⟩ = some (.int .i64 (j : Int)) ∧ (∃ v, w2.cell? ⟨ob, j, none⟩ = some v) ∧ w2.frozen? ⟨ob, j, none⟩ = false ∧ SgP X F w r d ob (doG fs g d ⟨9, (j : Int), (i2 : Int), b, c, n, op, label, name, args⟩ o r.s) (.returned (.tuple #[])) (w2.setCell ⟨ob, j, none⟩ (.int .i64 z))) := fun w2 z hp => by
    have key : ∀ r', Wz X.P NoE (w.alloc A) r w2 r' → w2.cell? ⟨w.heap.size, 1, none⟩ = some (.int .i64 (j : Int)) ∧ (∃ v, w2.cell? ⟨ob, j, none⟩ = some v) ∧ w2.frozen? ⟨ob, j, none⟩ = false ∧ OwR X.P w2 r' ob F o := fun r' hz => by
      have hbx := new_kept h.wm hz
      have how := h'.ow.on hz (fun e => e)
      obtain ⟨j2, e2, q1, q2, q3, _⟩ := how.get hd
      have e2' : j2 = j := by omega
      subst e2'
      exact ⟨cell_at (i := 1) (by rw [hbx, hA]) rfl, ⟨_, q2⟩, q3, how⟩
    rcases hp with ⟨z1, hz, z2, z3⟩ | ⟨z1, z2, hz, b9, av, z3, z4⟩
    · obtain ⟨p1, p2, p3, p4⟩ := key r z3
      refine ⟨p1, p2, p3, rfl, r, 4, z2.setL p4.nx h.lo, ((Wz.below (al_bel _ _)).trans z3.no).setE, .inr ⟨by decide, ?_⟩⟩
      rw [hdo, hnv, gb_e (new_er z1)]
    · obtain ⟨p1, p2, p3, p4⟩ := key _ z4
      have hz' : z = (r.ab.length : Int) + 1 := by injection hz with hz; injection hz
      refine ⟨p1, p2, p3, rfl, r.new1 b9 nv.toNat av, 0, z3.setL p4.nx h.lo, ((Wz.below (al_bel _ _)).trans z4.no).setE, .inl ⟨o.set j (0, some r.s.hp.length), rfl, ?_, ?_⟩⟩
      · rw [hdo, hnv, gb_o (new_ok ⟨z1, z2⟩)]
        rfl
      · have hv : z = rpV 2 (0, some r.s.hp.length) := by rw [hz']; unfold rpV arrN; rw [if_neg (by decide), h.wm.alen]
        rw [hv]
        exact p4.put (t := 2) hty (fun _ => by show r.s.hp.length < (r.ab ++ _).length; rw [← h.wm.alen]; simp)
  generalize SgP X F w r d ob (doG fs g d ⟨9, (j : Int), (i2 : Int), b, c, n, op, label, name, args⟩ o r.s) = G at HFi ⊢
  obtain ⟨kl, hkl⟩ : ∃ kl, o.length = kl := ⟨_, rfl⟩
  have hk6 := h.kl
  have hjl : j < o.length := by rw [h.ow.len]; exact h1
  show Calls Tryd.prog 48 #[ptr X.P, .slice ql nl cl, .slice (some ⟨ob, 0, none⟩) o.length o.length, .agg #[.int .i64 9, .int .i64 (j : Int), .int .i64 (i2 : Int), .int .i64 b, .int .i64 c, .int .i64 n, .string y6, .int .i64 label, .string y8, .slice qa na ca]] w G
  rw [hkl] at hjl hk6 k2 ⊢
  have hl9 : (j : Int) < (kl : Int) := by omega
  have hl8 : (i2 : Int) < (kl : Int) := by omega
  rw [hA] at HIn HFi k3'
  clear h h' hA hkl hd hdo hnv hty h1 ha hax k3 k4 h5
  go_enter Tryd.func48, Tryd.ntmps48
  go_wp2_with fail
  go_region_with (go_at_call 60; refine (HIn.out _ rfl).mono ?_; rintro e w2 ⟨z, rfl, hp⟩; obtain ⟨z1, ⟨zv, z2⟩, z3, z4⟩ := HFi.out w2 z hp; have HX : Hid (G (.returned (.tuple #[])) (w2.setCell ⟨ob, j, none⟩ (.int .i64 z))) := z4; clear z4 hp)
  all_goals
    go_wp2
    go_end0
    exact HX.out
set_option maxRecDepth 100000 in
set_option maxHeartbeats 4000000 in
theorem sg_copy (h : SgE X F w r d ob o) (hc : s.code = 2) (t : Int) (hd : isB F s.dst t = true) (ha : isB F s.a t = true) : Calls Tryd.prog 48 (sgA X ql nl cl ob o.length s y6 y8 qa na ca) w (SgP X F w r d ob (doG fs g d s o r.s)) := by
  have hdo := do_2 (fs := fs) (g := g) (d := d) (o := o) (r := r) hc
  obtain ⟨code, dst, a, b, c, n, op, label, name, args⟩ := s
  dsimp only at hc hd ha hdo
  subst hc
  obtain ⟨j, rfl, h1, hty⟩ := is_get hd
  rw [Int.toNat_natCast] at hdo
  have hax := ha
  obtain ⟨i, rfl, h5, _⟩ := is_get ha
  obtain ⟨A, hA⟩ : ∃ A : Obj, A = .cells #[.int .i64 2, .int .i64 (j : Int), .int .i64 (i : Int), .int .i64 b, .int .i64 c, .int .i64 n, .string y6, .int .i64 label, .string y8, .slice qa na ca] 58 := ⟨_, rfl⟩
  have h' := h.al A
  obtain ⟨i2, e2, k2, k3, k4, k5⟩ := h'.ow.get hax
  have e2' : i2 = i := by omega
  subst e2'
  obtain ⟨j2, e2, q1, q2, q3, _⟩ := h'.ow.get hd
  have e2' : j2 = j := by omega
  subst e2'
  obtain ⟨nv, hnv⟩ : ∃ nv, rpV t (pl o (i2 : Int)) = nv := ⟨_, rfl⟩
  rw [hnv] at k3
  have k3' : (w.alloc A).drew.cell? ⟨ob, i2, none⟩ = some (.int .i64 nv) := k3
  have q2' : (w.alloc A).drew.cell? ⟨ob, j2, none⟩ = some (.int .i64 (rpV t (pl o (j2 : Int)))) := q2
  have q3' : (w.alloc A).drew.frozen? ⟨ob, j2, none⟩ = false := q3
  have HX : Hid (SgP X F w r d ob (doG fs g d ⟨2, (j2 : Int), (i2 : Int), b, c, n, op, label, name, args⟩ o r.s) (.returned (.tuple #[])) ((w.alloc A).drew.setCell ⟨ob, j2, none⟩ (.int .i64 nv))) := by
    have hb := (al_bel w A).drew
    have hw := h'.wm.below (Below.refl _ _).drew
    have how := h'.ow.on (E := NoE) (Wz.below (Below.refl _ (w.alloc A)).drew) (fun e => e)
    refine ⟨rfl, r, 0, hw.setL how.nx h.lo, (Wz.below hb).setE, .inl ⟨_, rfl, hdo, ?_⟩⟩
    rw [← hnv]
    exact how.put hty (fun e => by subst e; exact k5 rfl)
  generalize SgP X F w r d ob (doG fs g d ⟨2, (j2 : Int), (i2 : Int), b, c, n, op, label, name, args⟩ o r.s) = G at HX ⊢
  obtain ⟨kl, hkl⟩ : ∃ kl, o.length = kl := ⟨_, rfl⟩
  have hk6 := h.kl
  show Calls Tryd.prog 48 #[ptr X.P, .slice ql nl cl, .slice (some ⟨ob, 0, none⟩) o.length o.length, .agg #[.int .i64 2, .int .i64 (j2 : Int), .int .i64 (i2 : Int), .int .i64 b, .int .i64 c, .int .i64 n, .string y6, .int .i64 label, .string y8, .slice qa na ca]] w G
  rw [hkl] at q1 hk6 k2 ⊢
  have hl9 : (j2 : Int) < (kl : Int) := by omega
  have hl8 : (i2 : Int) < (kl : Int) := by omega
  obtain ⟨zv, hzv⟩ : ∃ zv, rpV t (pl o (j2 : Int)) = zv := ⟨_, rfl⟩
  rw [hzv] at q2'
  rw [hA] at HX k3' q2' q3'
  clear h h' hA hkl hd hdo hnv hty h1 ha hax k3 k4 h5 q2 q3 k5 hzv
  go_enter Tryd.func48, Tryd.ntmps48
  go_wp2_with fail
  go_region
  all_goals
    go_wp2
    go_end0
    exact HX.out
set_option maxRecDepth 100000 in
set_option maxHeartbeats 4000000 in
theorem sg_len (h : SgE X F w r d ob o) (hc : s.code = 10) (hd : isB F s.dst 1 = true) (ha : isB F s.a 2 = true) : Calls Tryd.prog 48 (sgA X ql nl cl ob o.length s y6 y8 qa na ca) w (SgP X F w r d ob (doG fs g d s o r.s)) := by
  have hdo := do_10 (fs := fs) (g := g) (d := d) (o := o) (r := r) hc
  obtain ⟨code, dst, a, b, c, n, op, label, name, args⟩ := s
  dsimp only at hc hd ha hdo
  subst hc
  obtain ⟨j, rfl, h1, hty⟩ := is_get hd
  rw [Int.toNat_natCast] at hdo
  have hax := ha
  obtain ⟨i, rfl, h5, _⟩ := is_get ha
  obtain ⟨A, hA⟩ : ∃ A : Obj, A = .cells #[.int .i64 10, .int .i64 (j : Int), .int .i64 (i : Int), .int .i64 b, .int .i64 c, .int .i64 n, .string y6, .int .i64 label, .string y8, .slice qa na ca] 58 := ⟨_, rfl⟩
  have h' := h.al A
  obtain ⟨i2, e2, k2, k3, k4, k5⟩ := h'.ow.get hax
  have e2' : i2 = i := by omega
  subst e2'
  obtain ⟨j2, e2, q1, q2, q3, _⟩ := h'.ow.get hd
  have e2' : j2 = j := by omega
  subst e2'
  obtain ⟨ga, cap, an, p9, l9, c9, u1, u2, u3, u4, u5, u6, u7, u8, _⟩ := arr_cell h'.wm (k5 rfl)
  have k3' : (w.alloc A).drew.cell? ⟨ob, i2, none⟩ = some (.int .i64 (an : Int)) := by
    have e : rpV 2 (pl o (i2 : Int)) = (an : Int) := by unfold rpV; rw [if_neg (by decide), u3]
    rw [← e]; exact k3
  have c0 : (w.alloc A).drew.cell? ⟨X.P, 0, none⟩ = some (.slice (some ⟨ga, 0, none⟩) (r.ab.length + 1) cap) := by rw [← u1]; exact cell_at (i := 0) h'.wm.pb rfl
  have u5' : (w.alloc A).drew.cell? ⟨ga, an, none⟩ = some (.slice p9 l9 c9) := u5
  obtain ⟨zv, hzv⟩ : ∃ zv, rpV 1 (pl o (j2 : Int)) = zv := ⟨_, rfl⟩
  rw [hzv] at q2
  have q2' : (w.alloc A).drew.cell? ⟨ob, j2, none⟩ = some (.int .i64 zv) := q2
  have q3' : (w.alloc A).drew.frozen? ⟨ob, j2, none⟩ = false := q3
  have HX : Hid (SgP X F w r d ob (doG fs g d ⟨10, (j2 : Int), (i2 : Int), b, c, n, op, label, name, args⟩ o r.s) (.returned (.tuple #[])) ((w.alloc A).drew.setCell ⟨ob, j2, none⟩ (.int .i64 (l9 : Int)))) := by
    have hb := (al_bel w A).drew
    have hw := h'.wm.below (Below.refl _ _).drew
    have how := h'.ow.on (E := NoE) (Wz.below (Below.refl _ (w.alloc A)).drew) (fun e => e)
    refine ⟨rfl, r, 0, hw.setL how.nx h.lo, (Wz.below hb).setE, .inl ⟨_, rfl, by rw [hdo, u6], ?_⟩⟩
    exact how.put (t := 1) (x := ((l9 : Int), none)) hty (fun e => by cases e)
  generalize SgP X F w r d ob (doG fs g d ⟨10, (j2 : Int), (i2 : Int), b, c, n, op, label, name, args⟩ o r.s) = G at HX ⊢
  obtain ⟨kl, hkl⟩ : ∃ kl, o.length = kl := ⟨_, rfl⟩
  obtain ⟨nb, hnb⟩ : ∃ nb, r.ab.length + 1 = nb := ⟨_, rfl⟩
  have hk6 := h.kl
  have hf6 := h.few
  show Calls Tryd.prog 48 #[ptr X.P, .slice ql nl cl, .slice (some ⟨ob, 0, none⟩) o.length o.length, .agg #[.int .i64 10, .int .i64 (j2 : Int), .int .i64 (i2 : Int), .int .i64 b, .int .i64 c, .int .i64 n, .string y6, .int .i64 label, .string y8, .slice qa na ca]] w G
  rw [hkl] at q1 hk6 k2 ⊢
  rw [hnb] at c0 u2 u4
  have hl9 : (j2 : Int) < (kl : Int) := by omega
  have hl8 : (i2 : Int) < (kl : Int) := by omega
  have hl7 : (an : Int) < (nb : Int) := by omega
  have hnb6 : nb ≤ 10000001 := by omega
  rw [hA] at HX k3' q2' q3' c0 u5'
  clear h h' hA hkl hd hdo hty h1 ha hax k3 k4 h5 q2 q3 k5 hzv u1 u3 u5 u6 hnb hf6
  go_enter Tryd.func48, Tryd.ntmps48
  go_wp2_with fail
  go_region
  all_goals
    go_wp2
    go_end0
    exact HX.out
end
end Go.Proofs.YtjmbjpimabnohaaDoor.Mid
