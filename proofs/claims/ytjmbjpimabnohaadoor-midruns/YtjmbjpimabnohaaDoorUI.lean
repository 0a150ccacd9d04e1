/- The document's run of steps: step at Store. -/
import Derived.Test.YtjmbjpimabnohaaDoorUH
namespace Go.Proofs.YtjmbjpimabnohaaDoor.Mid
set_option linter.unusedVariables false
set_option linter.unusedSimpArgs false
open Go Go.RowKit

section
variable {X : Qx} {F : Mf} {fs : By → Option Mf} {w : World} {r : Rr} {g d ob : Nat} {o : List Vl} {s : Ms} {ql : Option Addr} {nl cl : Nat} {y6 y8 : ByteArray} {qa : Option Addr} {na ca : Nat}
set_option maxRecDepth 100000 in
set_option maxHeartbeats 4000000 in
theorem sg_store (h : SgE X F w r d ob o) (hc : s.code = 12) (ha : isB F s.a 2 = true) (hb : isB F s.b 1 = true) (hd : isB F s.c 1 = true) : Calls Tryd.prog 48 (sgA X ql nl cl ob o.length s y6 y8 qa na ca) w (SgP X F w r d ob (doG fs g d s o r.s)) := by
  have hdo := do_12 (fs := fs) (g := g) (d := d) (o := o) (r := r) hc
  obtain ⟨code, dst, a, b, c, n, op, label, name, args⟩ := s
  dsimp only at hc hd ha hb hdo
  subst hc
  obtain ⟨j, rfl, h1, hty⟩ := is_get hd
  have hax := ha
  obtain ⟨i, rfl, h5, _⟩ := is_get ha
  have hbx := hb
  obtain ⟨m, rfl, h6, _⟩ := is_get hb
  obtain ⟨A, hA⟩ : ∃ A : Obj, A = .cells #[.int .i64 12, .int .i64 dst, .int .i64 (i : Int), .int .i64 (m : Int), .int .i64 (j : Int), .int .i64 n, .string y6, .int .i64 label, .string y8, .slice qa na ca] 58 := ⟨_, rfl⟩
  have h' := h.al A
  obtain ⟨i2, e2, k2, k3, k4, k5⟩ := h'.ow.get hax
  have e2' : i2 = i := by omega
  subst e2'
  obtain ⟨m2, e2, p2, p3, p4, _⟩ := h'.ow.get hbx
  have e2' : m2 = m := by omega
  subst e2'
  have hbox : (w.alloc A).heap[w.heap.size]? = some A := heap_alloc_last _ _
  obtain ⟨qv, hqv⟩ : ∃ qv, (pl o (i2 : Int)).2 = qv := ⟨_, rfl⟩
  obtain ⟨nv, hnv⟩ : ∃ nv, (pl o (m2 : Int)).1 = nv := ⟨_, rfl⟩
  obtain ⟨cv, hcv⟩ : ∃ cv, (pl o (j : Int)).1 = cv := ⟨_, rfl⟩
  obtain ⟨an, han⟩ : ∃ an, arrN qv = an := ⟨_, rfl⟩
  have k3' : (w.alloc A).drew.cell? ⟨ob, i2, none⟩ = some (.int .i64 an) := by rw [← han, ← hqv]; exact k3
  have p3' : (w.alloc A).drew.cell? ⟨ob, m2, none⟩ = some (.int .i64 nv) := by rw [← hnv]; exact p3
  have hq : QvR r qv := by rw [← hqv]; exact k5 rfl
  have hwd := h'.wm.below (Below.refl _ (w.alloc A)).drew
  have hit := item_r X _ r d qv nv hwd hq h.few
  rw [han] at hit
  rw [hqv, hnv, hcv] at hdo
  obtain ⟨kl, hkl⟩ : ∃ kl, o.length = kl := ⟨_, rfl⟩
  have hk6 := h.kl
  have hjl : j < o.length := by rw [h.ow.len]; exact h1
  by_cases h0 : nv < 0 ∨ ((arrOf r.s qv).length : Int) ≤ nv
  · have HIn : Hid (∀ W, W = (w.alloc A).drew → Calls Tryd.prog 61 #[ptr X.P, .int .i64 an, .int .i64 nv] W (fun e w2 => e = .returned (.pointer none) ∧ SgP X F w r d ob (doG fs g d ⟨12, dst, (i2 : Int), (m2 : Int), (j : Int), n, op, label, name, args⟩ o r.s) (.returned (.tuple #[])) w2)) := fun W hW => by
      subst hW
      refine hit.mono ?_
      rintro e w2 (⟨_, rfl, z2, z3⟩ | ⟨z1, _⟩)
      · refine ⟨rfl, rfl, r, 3, z2, (Wz.below (al_bel _ _)).trans z3.undrew.no, .inr ⟨by decide, ?_⟩⟩
        rw [hdo, gb_e (put_er h0)]
      · exact absurd h0 z1
    generalize SgP X F w r d ob (doG fs g d ⟨12, dst, (i2 : Int), (m2 : Int), (j : Int), n, op, label, name, args⟩ o r.s) = G at HIn ⊢
    show Calls Tryd.prog 48 #[ptr X.P, .slice ql nl cl, .slice (some ⟨ob, 0, none⟩) o.length o.length, .agg #[.int .i64 12, .int .i64 dst, .int .i64 (i2 : Int), .int .i64 (m2 : Int), .int .i64 (j : Int), .int .i64 n, .string y6, .int .i64 label, .string y8, .slice qa na ca]] w G
    rw [hkl] at hjl hk6 k2 p2 ⊢
    have hl9 : (m2 : Int) < (kl : Int) := by omega
    have hl8 : (i2 : Int) < (kl : Int) := by omega
    rw [hA] at HIn k3' p3'
    clear h h' hA hkl hd hdo hnv hty h1 ha hax k3 k4 h5 hb hbx h6 p3 p4 hbox hqv han hq hwd hit h0 k5 hcv
    go_enter Tryd.func48, Tryd.ntmps48
    go_wp2_with fail
    go_region_with (go_at_call 61; refine (HIn.out _ rfl).mono ?_; rintro e w2 ⟨rfl, hp⟩; have HX : Hid (G (.returned (.tuple #[])) w2) := hp; clear hp)
    all_goals
      go_wp2
      go_end0
      exact HX.out
  · have HIn : Hid (∀ W, W = (w.alloc A).drew → Calls Tryd.prog 61 #[ptr X.P, .int .i64 an, .int .i64 nv] W (fun e w2 => ∃ bb nn zv, e = .returned (.pointer (some ⟨bb, nn, none⟩)) ∧ w2.cell? ⟨w.heap.size, 0, none⟩ = some (.int .i64 12) ∧ w2.cell? ⟨w.heap.size, 4, none⟩ = some (.int .i64 (j : Int)) ∧ w2.cell? ⟨bb, nn, none⟩ = some zv ∧ w2.frozen? ⟨bb, nn, none⟩ = false ∧ w2.cell? ⟨ob, j, none⟩ = some (.int .i64 cv) ∧ SgP X F w r d ob (doG fs g d ⟨12, dst, (i2 : Int), (m2 : Int), (j : Int), n, op, label, name, args⟩ o r.s) (.returned (.tuple #[])) (w2.setCell ⟨bb, nn, none⟩ (.int .i64 cv)))) := fun W hW => by
      subst hW
      refine hit.mono ?_
      rintro e w2 (⟨z1, _⟩ | ⟨_, ⟨i9, b9, k9, rfl, z3, rfl⟩, rfl⟩)
      · exact absurd z1 h0
      have hb2 : Below w.heap.size w (w.alloc A).drew := (al_bel w A).drew
      have how := h'.ow.on (E := NoE) (Wz.below (Below.refl _ (w.alloc A)).drew) (fun e => e)
      obtain ⟨j2, e2, q1, q2, q3, _⟩ := how.get hd
      have e2' : j2 = j := by omega
      subst e2'
      obtain ⟨y1, y2⟩ := itm_cell hwd z3 h0
      obtain ⟨u1, u2⟩ := hwd.putA (j := nv.toNat) (n := cv) z3
      refine ⟨b9, nv.toNat, _, rfl, cell_at (i := 0) (by show (w.alloc A).heap[w.heap.size]? = _; rw [hbox, hA]) rfl, cell_at (i := 4) (by show (w.alloc A).heap[w.heap.size]? = _; rw [hbox, hA]) rfl, y1, y2, by rw [← hcv]; exact q2, rfl, r.put1 i9 nv.toNat cv, 0, u1, (Wz.below hb2).trans u2.no, .inl ⟨o, rfl, ?_, how.on u2 (fun e => e)⟩⟩
      rw [hdo, gb_o (put_ok h0)]
      rfl
    generalize SgP X F w r d ob (doG fs g d ⟨12, dst, (i2 : Int), (m2 : Int), (j : Int), n, op, label, name, args⟩ o r.s) = G at HIn ⊢
    show Calls Tryd.prog 48 #[ptr X.P, .slice ql nl cl, .slice (some ⟨ob, 0, none⟩) o.length o.length, .agg #[.int .i64 12, .int .i64 dst, .int .i64 (i2 : Int), .int .i64 (m2 : Int), .int .i64 (j : Int), .int .i64 n, .string y6, .int .i64 label, .string y8, .slice qa na ca]] w G
    rw [hkl] at hjl hk6 k2 p2 ⊢
    have hl9 : (m2 : Int) < (kl : Int) := by omega
    have hl8 : (i2 : Int) < (kl : Int) := by omega
    have hl7 : (j : Int) < (kl : Int) := by omega
    rw [hA] at HIn k3' p3'
    clear h h' hA hkl hd hdo hnv hty h1 ha hax k3 k4 h5 hb hbx h6 p3 p4 hbox hqv han hq hwd hit h0 k5 hcv
    go_enter Tryd.func48, Tryd.ntmps48
    go_wp2_with fail
    go_region_with (go_at_call 61; refine (HIn.out _ rfl).mono ?_; rintro e w2 ⟨bb, nn, zv, rfl, z1, z2, z3, z4, z5, hp⟩; have HX : Hid (G (.returned (.tuple #[])) (w2.setCell ⟨bb, nn, none⟩ (.int .i64 cv))) := hp; clear hp)
    all_goals
      go_wp2
      go_end0
      exact HX.out
end
end Go.Proofs.YtjmbjpimabnohaaDoor.Mid
