/- The document's run of steps: step at Load, Store. -/
import Derived.Test.YtjmbjpimabnohaaDoorUG
namespace Go.Proofs.YtjmbjpimabnohaaDoor.Mid
set_option linter.unusedVariables false
set_option linter.unusedSimpArgs false
open Go Go.RowKit

def Rr.put1 (r : Rr) (i j : Nat) (n : Int) : Rr := { r with s := { r.s with hp := r.s.hp.modify i (fun l => l.set j n) } }
theorem Wm.putA {w0 : World} {P : Nat} {w : World} {r : Rr} {d : Nat} {way : Int} (h : Wm w0 P w r d way) {i b k j : Nat} {n : Int} (hi : r.ab[i]? = some (b, k)) : Wm w0 P (w.setCell ⟨b, j, none⟩ (.int .i64 n)) (r.put1 i j n) d way ∧ Wz P NoE w r (w.setCell ⟨b, j, none⟩ (.int .i64 n)) (r.put1 i j n) := by
  have hmem : b ∈ r.ab.map (·.1) := List.mem_map.2 ⟨(b, k), List.mem_of_getElem? hi, rfl⟩
  have ho : ∀ x, x ≠ b → (w.setCell ⟨b, j, none⟩ (.int .i64 n)).heap[x]? = w.heap[x]? := fun x hx => heap_setCell_other _ _ _ _ hx
  have hsz : (w.setCell ⟨b, j, none⟩ (.int .i64 n)).heap.size = w.heap.size := by simp
  have hlo := h.lo b hmem
  obtain ⟨_, _, _, _, hb4⟩ := h.arr i b k hi
  have hPb : P ≠ b := (h.neP hb4 (by decide)).symm
  have hav : r.av.ownBlock ≠ some b := fun e => by
    obtain ⟨cs, hc⟩ := own_ty h.arrs e
    exact absurd (ty_ne hb4 hc) (by decide)
  refine ⟨⟨h.lo0, by rw [hsz]; exact h.le, fun x h1 => ?_, ?_, h.inp, own_at h.out (fun x hx => ho x (fun e => h.apart x hx (e ▸ hmem))), own_at h.arrs (fun x hx => ho x (fun e => hav (e ▸ hx))), h.apart, ?_, fun x y m hx => ?_, h.lo, h.nd, h.few, h.told, h.deep⟩, ⟨rfl, rfl, rfl, by rw [hsz]; exact Nat.le_refl _, fun x _ hx _ => ho x (fun e => hx (.inr (.inl (e ▸ hmem)))), List.prefix_rfl, fun x h1 h2 => absurd h1 h2⟩⟩
  · rw [ho x (by omega)]; exact h.kp x h1
  · rw [ho P hPb]; exact h.pb
  · show r.ab.length = (r.s.hp.modify i _).length
    rw [List.length_modify]
    exact h.alen
  · have hx' : r.ab[x]? = some (y, m) := hx
    obtain ⟨l, a1, a2, a3, a4⟩ := h.arr x y m hx'
    show ∃ l, (r.s.hp.modify i _)[x]? = some l ∧ _
    by_cases e : i = x
    · subst e
      rw [hi] at hx'
      injection hx' with hx'
      injection hx' with e1 e2
      subst e1
      subst e2
      refine ⟨l.set j n, by rw [List.getElem?_modify_eq, a1]; rfl, by rw [List.length_set]; exact a2, a3, ?_⟩
      rw [heap_setCell_same _ _ _ _ _ _ a4]
      congr 2
      apply Array.ext'
      simp [ints]
    · refine ⟨l, by rw [List.getElem?_modify_ne _ _ e]; exact a1, a2, a3, ?_⟩
      have hne : y ≠ b := fun e2 => by
        have q1 : (r.ab.map (·.1))[i]? = some b := by rw [List.getElem?_map, hi]; rfl
        have q2 : (r.ab.map (·.1))[x]? = some b := by rw [List.getElem?_map, hx', e2]; rfl
        have hlt := (List.getElem?_eq_some_iff.1 q1).1
        exact e ((List.getElem?_inj hlt h.nd).1 (q1.trans q2.symm))
      rw [ho y hne]
      exact a4
section
variable {X : Qx} {F : Mf} {fs : By → Option Mf} {w : World} {r : Rr} {g d ob : Nat} {o : List Vl} {s : Ms} {ql : Option Addr} {nl cl : Nat} {y6 y8 : ByteArray} {qa : Option Addr} {na ca : Nat}
theorem do_11 (h : s.code = 11) : doG fs g d s o r.s = (gb (itemG (pl o s.a).2 (pl o s.b).1) fun n => gp (o.set s.dst.toNat (n, none))) r.s := by
  unfold doG reckG; rw [h]
  simp only [gb, gp]
  rw [if_neg (by decide), if_neg (by decide), if_neg (by decide), if_neg (by decide), if_neg (by decide), if_neg (by decide), if_neg (by decide), if_neg (by decide), if_pos trivial]
  simp only [gb, gp]
  cases itemG (pl o s.a).2 (pl o s.b).1 r.s <;> rfl
theorem do_12 (h : s.code = 12) : doG fs g d s o r.s = (gb (putG (pl o s.a).2 (pl o s.b).1 (pl o s.c).1) fun _ => gp o) r.s := by unfold doG; rw [if_neg (by omega), if_pos h]
theorem itm_er {q : Option Nat} {i : Int} {s : Sg} (h : i < 0 ∨ ((arrOf s q).length : Int) ≤ i) : itemG q i s = .error (3, s.out) := if_pos h
theorem itm_ok {q : Option Nat} {i : Int} {s : Sg} (h : ¬ (i < 0 ∨ ((arrOf s q).length : Int) ≤ i)) : itemG q i s = .ok ((arrOf s q).getD i.toNat 0, s) := if_neg h
/-- An item's cell. -/
theorem itm_cell {w0 : World} {P : Nat} {way : Int} (h : Wm w0 P w r d way) {i b k : Nat} {n : Int} (hi : r.ab[i]? = some (b, k)) (hn : ¬ (n < 0 ∨ ((arrOf r.s (some i)).length : Int) ≤ n)) : w.cell? ⟨b, n.toNat, none⟩ = some (.int .i64 ((arrOf r.s (some i)).getD n.toNat 0)) ∧ w.frozen? ⟨b, n.toNat, none⟩ = false := by
  obtain ⟨l, a1, a2, a3, a4⟩ := h.arr i b k hi
  have e : arrOf r.s (some i) = l := by show r.s.hp.getD i [] = l; rw [List.getD_eq_getElem?_getD, a1]; rfl
  rw [e] at hn ⊢
  have hlt : n.toNat < l.length := by omega
  refine ⟨cell_at a4 ?_, row_free a4 _⟩
  simp [ints, List.getD_eq_getElem?_getD, List.getElem?_eq_getElem hlt]
set_option maxRecDepth 100000 in
set_option maxHeartbeats 4000000 in
theorem sg_load (h : SgE X F w r d ob o) (hc : s.code = 11) (hd : isB F s.dst 1 = true) (ha : isB F s.a 2 = true) (hb : isB F s.b 1 = true) : Calls Tryd.prog 48 (sgA X ql nl cl ob o.length s y6 y8 qa na ca) w (SgP X F w r d ob (doG fs g d s o r.s)) := by
  have hdo := do_11 (fs := fs) (g := g) (d := d) (o := o) (r := r) hc
  obtain ⟨code, dst, a, b, c, n, op, label, name, args⟩ := s
  dsimp only at hc hd ha hb hdo
  subst hc
  obtain ⟨j, rfl, h1, hty⟩ := is_get hd
  rw [Int.toNat_natCast] at hdo
  have hax := ha
  obtain ⟨i, rfl, h5, _⟩ := is_get ha
  have hbx := hb
  obtain ⟨m, rfl, h6, _⟩ := is_get hb
  obtain ⟨A, hA⟩ : ∃ A : Obj, A = .cells #[.int .i64 11, .int .i64 (j : Int), .int .i64 (i : Int), .int .i64 (m : Int), .int .i64 c, .int .i64 n, .string y6, .int .i64 label, .string y8, .slice qa na ca] 58 := ⟨_, rfl⟩
  have h' := h.al A
  obtain ⟨i2, e2, k2, k3, k4, k5⟩ := h'.ow.get hax
  have e2' : i2 = i := by omega
  subst e2'
  obtain ⟨m2, e2, p2, p3, p4, _⟩ := h'.ow.get hbx
  have e2' : m2 = m := by omega
  subst e2'
  have hbox : (w.alloc A).heap[w.heap.size]? = some A := heap_alloc_last _ _
  obtain ⟨qv, hqv⟩ : ∃ qv, (pl o (i2 : Int)).2 = qv := ⟨_, rfl⟩
  obtain ⟨nv, hnv⟩ : ∃ nv, (pl o (m2 : Int)).1 = nv := ⟨_, rfl⟩
  obtain ⟨an, han⟩ : ∃ an, arrN qv = an := ⟨_, rfl⟩
  have k3' : (w.alloc A).drew.cell? ⟨ob, i2, none⟩ = some (.int .i64 an) := by rw [← han, ← hqv]; exact k3
  have p3' : (w.alloc A).drew.cell? ⟨ob, m2, none⟩ = some (.int .i64 nv) := by rw [← hnv]; exact p3
  have hq : QvR r qv := by rw [← hqv]; exact k5 rfl
  have hwd := h'.wm.below (Below.refl _ (w.alloc A)).drew
  have hit := item_r X _ r d qv nv hwd hq h.few
  rw [han] at hit
  rw [hqv, hnv] at hdo
  obtain ⟨kl, hkl⟩ : ∃ kl, o.length = kl := ⟨_, rfl⟩
  have hk6 := h.kl
  have hjl : j < o.length := by rw [h.ow.len]; exact h1
  by_cases h0 : nv < 0 ∨ ((arrOf r.s qv).length : Int) ≤ nv
  · have HIn : Hid (∀ W, W = (w.alloc A).drew → Calls Tryd.prog 61 #[ptr X.P, .int .i64 an, .int .i64 nv] W (fun e w2 => e = .returned (.pointer none) ∧ SgP X F w r d ob (doG fs g d ⟨11, (j : Int), (i2 : Int), (m2 : Int), c, n, op, label, name, args⟩ o r.s) (.returned (.tuple #[])) w2)) := fun W hW => by
      subst hW
      refine hit.mono ?_
      rintro e w2 (⟨_, rfl, z2, z3⟩ | ⟨z1, _⟩)
      · refine ⟨rfl, rfl, r, 3, z2, (Wz.below (al_bel _ _)).trans z3.undrew.no, .inr ⟨by decide, ?_⟩⟩
        rw [hdo, gb_e (itm_er h0)]
      · exact absurd h0 z1
    generalize SgP X F w r d ob (doG fs g d ⟨11, (j : Int), (i2 : Int), (m2 : Int), c, n, op, label, name, args⟩ o r.s) = G at HIn ⊢
    show Calls Tryd.prog 48 #[ptr X.P, .slice ql nl cl, .slice (some ⟨ob, 0, none⟩) o.length o.length, .agg #[.int .i64 11, .int .i64 (j : Int), .int .i64 (i2 : Int), .int .i64 (m2 : Int), .int .i64 c, .int .i64 n, .string y6, .int .i64 label, .string y8, .slice qa na ca]] w G
    rw [hkl] at hjl hk6 k2 p2 ⊢
    have hl9 : (m2 : Int) < (kl : Int) := by omega
    have hl8 : (i2 : Int) < (kl : Int) := by omega
    rw [hA] at HIn k3' p3'
    clear h h' hA hkl hd hdo hnv hty h1 ha hax k3 k4 h5 hb hbx h6 p3 p4 hbox hqv han hq hwd hit h0 k5
    go_enter Tryd.func48, Tryd.ntmps48
    go_wp2_with fail
    go_region_with (go_at_call 61; refine (HIn.out _ rfl).mono ?_; rintro e w2 ⟨rfl, hp⟩; have HX : Hid (G (.returned (.tuple #[])) w2) := hp; clear hp)
    all_goals
      go_wp2
      go_end0
      exact HX.out
  · have HIn : Hid (∀ W, W = (w.alloc A).drew → Calls Tryd.prog 61 #[ptr X.P, .int .i64 an, .int .i64 nv] W (fun e w2 => ∃ bb nn v zv, e = .returned (.pointer (some ⟨bb, nn, none⟩)) ∧ w2.cell? ⟨w.heap.size, 0, none⟩ = some (.int .i64 11) ∧ w2.drew.cell? ⟨w.heap.size, 1, none⟩ = some (.int .i64 (j : Int)) ∧ w2.drew.cell? ⟨bb, nn, none⟩ = some (.int .i64 v) ∧ w2.drew.cell? ⟨ob, j, none⟩ = some zv ∧ w2.drew.frozen? ⟨ob, j, none⟩ = false ∧ SgP X F w r d ob (doG fs g d ⟨11, (j : Int), (i2 : Int), (m2 : Int), c, n, op, label, name, args⟩ o r.s) (.returned (.tuple #[])) (w2.drew.setCell ⟨ob, j, none⟩ (.int .i64 v)))) := fun W hW => by
      subst hW
      refine hit.mono ?_
      rintro e w2 (⟨z1, _⟩ | ⟨_, ⟨i9, b9, k9, rfl, z3, rfl⟩, rfl⟩)
      · exact absurd z1 h0
      have hb2 : Below w.heap.size w (w.alloc A).drew.drew := (al_bel w A).drew.drew
      have hw2 := hwd.below (Below.refl _ (w.alloc A).drew).drew
      have how := h'.ow.on (E := NoE) (Wz.below (Below.refl _ (w.alloc A)).drew.drew) (fun e => e)
      obtain ⟨j2, e2, q1, q2, q3, _⟩ := how.get hd
      have e2' : j2 = j := by omega
      subst e2'
      refine ⟨b9, nv.toNat, _, _, rfl, cell_at (i := 0) (by show (w.alloc A).heap[w.heap.size]? = _; rw [hbox, hA]) rfl, cell_at (i := 1) (by show (w.alloc A).heap[w.heap.size]? = _; rw [hbox, hA]) rfl, (itm_cell hw2 z3 h0).1, q2, q3, rfl, r, 0, hw2.setL how.nx h.lo, (Wz.below hb2).setE, .inl ⟨_, rfl, ?_, how.put (t := 1) (x := ((arrOf r.s (some i9)).getD nv.toNat 0, none)) hty (fun e => by cases e)⟩⟩
      rw [hdo, gb_o (itm_ok h0)]
      rfl
    generalize SgP X F w r d ob (doG fs g d ⟨11, (j : Int), (i2 : Int), (m2 : Int), c, n, op, label, name, args⟩ o r.s) = G at HIn ⊢
    show Calls Tryd.prog 48 #[ptr X.P, .slice ql nl cl, .slice (some ⟨ob, 0, none⟩) o.length o.length, .agg #[.int .i64 11, .int .i64 (j : Int), .int .i64 (i2 : Int), .int .i64 (m2 : Int), .int .i64 c, .int .i64 n, .string y6, .int .i64 label, .string y8, .slice qa na ca]] w G
    rw [hkl] at hjl hk6 k2 p2 ⊢
    have hl9 : (m2 : Int) < (kl : Int) := by omega
    have hl8 : (i2 : Int) < (kl : Int) := by omega
    have hl7 : (j : Int) < (kl : Int) := by omega
    rw [hA] at HIn k3' p3'
    clear h h' hA hkl hd hdo hnv hty h1 ha hax k3 k4 h5 hb hbx h6 p3 p4 hbox hqv han hq hwd hit h0 k5
    go_enter Tryd.func48, Tryd.ntmps48
    go_wp2_with fail
    go_region_with (go_at_call 61; refine (HIn.out _ rfl).mono ?_; rintro e w2 ⟨bb, nn, v, zv, rfl, z1, z2, z3, z4, z5, hp⟩; have HX : Hid (G (.returned (.tuple #[])) (w2.drew.setCell ⟨ob, j, none⟩ (.int .i64 v))) := hp; clear hp)
    all_goals
      go_wp2_with fail
      go_region
      all_goals
        go_wp2
        go_end0
        exact HX.out
end
end Go.Proofs.YtjmbjpimabnohaaDoor.Mid
