/- The document's run of steps: step at a label, what is told, what is asked for, an array that is made. -/
import Derived.Test.YtjmbjpimabnohaaDoorUE
import Derived.BigRegion
namespace Go.Proofs.YtjmbjpimabnohaaDoor.Mid
set_option linter.unusedVariables false
set_option linter.unusedSimpArgs false
open Go Go.RowKit

section
variable {X : Qx} {F : Mf} {fs : By → Option Mf} {w : World} {r : Rr} {g d ob : Nat} {o : List Vl} {s : Ms} {ql : Option Addr} {nl cl : Nat} {y6 y8 : ByteArray} {qa : Option Addr} {na ca : Nat}
theorem do_56 (h : s.code = 5 ∨ s.code = 6) : doG fs g d s o r.s = .ok (o, r.s) := by unfold doG; rw [if_neg (by omega), if_neg (by omega), if_pos h]; rfl
theorem do_13 (h : s.code = 13) : doG fs g d s o r.s = (gb (tellG (pl o s.a).1) fun _ => gp o) r.s := by unfold doG; rw [if_pos h]
theorem do_14 (h : s.code = 14) : doG fs g d s o r.s = .ok (o.set s.dst.toNat (r.s.inp.headD 0, none), { r.s with inp := r.s.inp.tail }) := by unfold doG reckG; rw [h]; rfl
theorem do_9 (h : s.code = 9) : doG fs g d s o r.s = (gb (newG (pl o s.a).1) fun v => gp (o.set s.dst.toNat v)) r.s := by unfold doG reckG; rw [h]; rfl
/-- A block that was made since, behind a callee. -/
theorem new_kept {w2 : World} {r' : Rr} {A : Obj} (h : Wm X.w0 X.P w r d 0) (hz : Wz X.P NoE (w.alloc A) r w2 r') : w2.heap[w.heap.size]? = some A := by
  rw [hz.blk w.heap.size (by simp) (h.newX (Nat.le_refl _)) (fun e => e)]
  exact heap_alloc_last _ _
set_option maxRecDepth 100000 in
set_option maxHeartbeats 2000000 in
theorem sg_idle (h : SgE X F w r d ob o) (hc : s.code = 5 ∨ s.code = 6) : Calls Tryd.prog 48 (sgA X ql nl cl ob o.length s y6 y8 qa na ca) w (SgP X F w r d ob (doG fs g d s o r.s)) := by
  have hdo := do_56 (fs := fs) (g := g) (d := d) (o := o) (r := r) hc
  obtain ⟨code, dst, a, b, c, n, op, label, name, args⟩ := s
  dsimp only at hc hdo
  obtain ⟨A, hA⟩ : ∃ A : Obj, A = .cells #[.int .i64 code, .int .i64 dst, .int .i64 a, .int .i64 b, .int .i64 c, .int .i64 n, .string y6, .int .i64 label, .string y8, .slice qa na ca] 58 := ⟨_, rfl⟩
  have h' := h.al A
  have HX : Hid (SgP X F w r d ob (doG fs g d ⟨code, dst, a, b, c, n, op, label, name, args⟩ o r.s) (.returned (.tuple #[])) (w.alloc A)) := ⟨rfl, r, 0, h'.wm, Wz.below (al_bel _ _), .inl ⟨_, rfl, hdo, h'.ow⟩⟩
  generalize SgP X F w r d ob (doG fs g d ⟨code, dst, a, b, c, n, op, label, name, args⟩ o r.s) = G at HX ⊢
  show Calls Tryd.prog 48 #[ptr X.P, .slice ql nl cl, .slice (some ⟨ob, 0, none⟩) o.length o.length, .agg #[.int .i64 code, .int .i64 dst, .int .i64 a, .int .i64 b, .int .i64 c, .int .i64 n, .string y6, .int .i64 label, .string y8, .slice qa na ca]] w G
  obtain ⟨kl, hkl⟩ : ∃ kl, o.length = kl := ⟨_, rfl⟩
  rw [hkl]
  rw [hA] at HX
  clear h h' hA hkl hdo
  rcases hc with rfl | rfl
  all_goals
    go_enter Tryd.func48, Tryd.ntmps48
    go_wp2
    go_end0
    exact HX.out
set_option maxRecDepth 100000 in
set_option maxHeartbeats 2000000 in
theorem sg_tell (h : SgE X F w r d ob o) (hc : s.code = 13) (ha : isB F s.a 1 = true) : Calls Tryd.prog 48 (sgA X ql nl cl ob o.length s y6 y8 qa na ca) w (SgP X F w r d ob (doG fs g d s o r.s)) := by
  have hdo := do_13 (fs := fs) (g := g) (d := d) (o := o) (r := r) hc
  obtain ⟨code, dst, a, b, c, n, op, label, name, args⟩ := s
  dsimp only at hc ha hdo
  subst hc
  obtain ⟨A, hA⟩ : ∃ A : Obj, A = .cells #[.int .i64 13, .int .i64 dst, .int .i64 a, .int .i64 b, .int .i64 c, .int .i64 n, .string y6, .int .i64 label, .string y8, .slice qa na ca] 58 := ⟨_, rfl⟩
  have h' := h.al A
  obtain ⟨j, rfl, h2, h3, h4, _⟩ := h'.ow.get ha
  obtain ⟨nv, hnv⟩ : ∃ nv, (pl o (j : Int)).1 = nv := ⟨_, rfl⟩
  have h3' : (w.alloc A).cell? ⟨ob, j, none⟩ = some (.int .i64 nv) := by rw [h3, ← hnv]; rfl
  have HPr : Hid (Calls Tryd.prog 62 #[ptr X.P, .int .i64 nv] (w.alloc A) (PrP X (w.alloc A) r d nv)) := print_any X _ r d nv h'.wm
  have HFi : Hid (∀ w2, PrP X (w.alloc A) r d nv (.returned (.tuple #[])) w2 → SgP X F w r d ob (doG fs g d ⟨13, dst, (j : Int), b, c, n, op, label, name, args⟩ o r.s) (.returned (.tuple #[])) w2) := fun w2 hp => by
    obtain ⟨_, ⟨z1, z2, z3⟩ | ⟨z1, ov, z2, z3⟩⟩ := hp
    · refine ⟨rfl, r, 7, z2, (Wz.below (al_bel _ _)).trans z3.no, .inr ⟨by decide, ?_⟩⟩
      rw [hdo, hnv, gb_e (tell_er z1)]
    · refine ⟨rfl, r.tell1 ov nv, 0, z2, (Wz.below (al_bel _ _)).trans z3.no, .inl ⟨o, rfl, ?_, h'.ow.on z3 (fun e => e)⟩⟩
      rw [hdo, hnv, gb_o (tell_ok z1)]
      rfl
  generalize SgP X F w r d ob (doG fs g d ⟨13, dst, (j : Int), b, c, n, op, label, name, args⟩ o r.s) = G at HFi ⊢
  obtain ⟨kl, hkl⟩ : ∃ kl, o.length = kl := ⟨_, rfl⟩
  have hk6 := h.kl
  show Calls Tryd.prog 48 #[ptr X.P, .slice ql nl cl, .slice (some ⟨ob, 0, none⟩) o.length o.length, .agg #[.int .i64 13, .int .i64 dst, .int .i64 (j : Int), .int .i64 b, .int .i64 c, .int .i64 n, .string y6, .int .i64 label, .string y8, .slice qa na ca]] w G
  rw [hkl] at h2 hk6 ⊢
  have hl9 : (j : Int) < (kl : Int) := by omega
  rw [hA] at h3' HPr HFi
  clear h h' hA hkl ha hdo h3 h4 hnv
  go_enter Tryd.func48, Tryd.ntmps48
  go_wp2_with (go_at_call 62; fail)
  refine HPr.out.mono ?_
  rintro e w2 hp
  obtain ⟨rfl, hp2⟩ := id hp
  have HX : Hid (G (.returned (.tuple #[])) w2) := HFi.out w2 hp
  clear hp hp2
  go_wp2
  go_end0
  exact HX.out
set_option maxRecDepth 100000 in
set_option maxHeartbeats 4000000 in
theorem sg_input (h : SgE X F w r d ob o) (hc : s.code = 14) (hd : isB F s.dst 1 = true) : Calls Tryd.prog 48 (sgA X ql nl cl ob o.length s y6 y8 qa na ca) w (SgP X F w r d ob (doG fs g d s o r.s)) := by
  have hdo := do_14 (fs := fs) (g := g) (d := d) (o := o) (r := r) hc
  obtain ⟨code, dst, a, b, c, n, op, label, name, args⟩ := s
  dsimp only at hc hd hdo
  subst hc
  obtain ⟨j, rfl, h1, hty⟩ := is_get hd
  rw [Int.toNat_natCast] at hdo
  obtain ⟨A, hA⟩ : ∃ A : Obj, A = .cells #[.int .i64 14, .int .i64 (j : Int), .int .i64 a, .int .i64 b, .int .i64 c, .int .i64 n, .string y6, .int .i64 label, .string y8, .slice qa na ca] 58 := ⟨_, rfl⟩
  have h' := h.al A
  obtain ⟨nv, hnv⟩ : ∃ nv, r.s.inp.headD 0 = nv := ⟨_, rfl⟩
  have HIn : Hid (∀ W, W = (w.alloc A).drew → Calls Tryd.prog 63 #[ptr X.P] W (fun e w2 => e = .returned (.int .i64 nv) ∧ InP X (w.alloc A) r d (.returned (.int .i64 nv)) w2)) := fun W hW => by
    subst hW
    refine (input_any X _ r d (h'.wm.below (Below.refl _ _).drew)).mono ?_
    rintro e w2 ⟨iv, rfl, z1, z2⟩
    rw [hnv]
    exact ⟨rfl, iv, by rw [hnv], z1, ⟨z2.os, z2.tape, z2.output, z2.size, z2.blk, z2.pre, z2.new⟩⟩
  have HFi : Hid (∀ w2, InP X (w.alloc A) r d (.returned (.int .i64 nv)) w2 → w2.cell? ⟨w.heap.size, 1, none⟩ = some (.int .i64 (j : Int)) ∧ (∃ v, w2.cell? ⟨ob, j, none⟩ = some v) ∧ w2.frozen? ⟨ob, j, none⟩ = false ∧ SgP X F w r d ob (doG fs g d ⟨14, (j : Int), a, b, c, n, op, label, name, args⟩ o r.s) (.returned (.tuple #[])) (w2.setCell ⟨ob, j, none⟩ (.int .i64 nv))) := fun w2 hp => by
    obtain ⟨iv, _, z1, z2⟩ := hp
    have hbx := new_kept h.wm z2
    have how := h'.ow.on z2 (fun e => e)
    obtain ⟨j2, e2, q1, q2, q3, _⟩ := how.get hd
    have e2' : j2 = j := by omega
    subst e2'
    refine ⟨cell_at (i := 1) (by rw [hbx, hA]) rfl, ⟨_, q2⟩, q3, rfl, r.take1 iv, 0, z1.setL how.nx h.lo, ((Wz.below (al_bel _ _)).trans z2.no).setE, .inl ⟨_, rfl, ?_, how.put (t := 1) (x := (nv, none)) hty (fun e => by cases e)⟩⟩
    rw [hdo, hnv]
    rfl
  generalize SgP X F w r d ob (doG fs g d ⟨14, (j : Int), a, b, c, n, op, label, name, args⟩ o r.s) = G at HFi ⊢
  obtain ⟨kl, hkl⟩ : ∃ kl, o.length = kl := ⟨_, rfl⟩
  have hk6 := h.kl
  have hjl : j < o.length := by rw [h.ow.len]; exact h1
  show Calls Tryd.prog 48 #[ptr X.P, .slice ql nl cl, .slice (some ⟨ob, 0, none⟩) o.length o.length, .agg #[.int .i64 14, .int .i64 (j : Int), .int .i64 a, .int .i64 b, .int .i64 c, .int .i64 n, .string y6, .int .i64 label, .string y8, .slice qa na ca]] w G
  rw [hkl] at hjl hk6 ⊢
  have hl9 : (j : Int) < (kl : Int) := by omega
  rw [hA] at HIn HFi
  clear h h' hA hkl hd hdo hnv hty h1
  go_enter Tryd.func48, Tryd.ntmps48
  go_wp2_with fail
  go_region_with (go_at_call 63; refine (HIn.out _ rfl).mono ?_; rintro e w2 ⟨rfl, hp⟩; obtain ⟨z1, ⟨zv, z2⟩, z3, z4⟩ := HFi.out w2 hp; have HX : Hid (G (.returned (.tuple #[])) (w2.setCell ⟨ob, j, none⟩ (.int .i64 nv))) := z4; clear z4 hp)
  all_goals
    go_wp2
    go_end0
    exact HX.out
end
end Go.Proofs.YtjmbjpimabnohaaDoor.Mid
