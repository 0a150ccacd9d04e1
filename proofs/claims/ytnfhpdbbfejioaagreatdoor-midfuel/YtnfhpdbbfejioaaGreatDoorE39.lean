/- PC -/
import Derived.Test.YtnfhpdbbfejioaaGreatDoorE33
namespace Go.Proofs.YtnfhpdbbfejioaaGreatDoor.Mid
set_option linter.unusedVariables false
set_option linter.unusedSimpArgs false
set_option maxRecDepth 100000
set_option maxHeartbeats 16000000
open Go Go.RowKit
theorem res103 {fn : Func} {p : Tmp} (h : fn.results = #[.cell p 103]) (tmps : Array Value) (w : World) (g : Nat) (a0 a1 a2 a3 : Value) (hp : tmps.getD p undef = .pointer (some ⟨g, 0, none⟩)) (hg : w.heap[g]? = some (.cells #[a0, a1, a2, a3] 103)) :
    (results fn tmps).run Tryz.prog w = .ok (.agg #[a0, a1, a2, a3]) w := by
  have h1 : (loadVar 103 ⟨g, 0, none⟩).run Tryz.prog w = .ok (.agg #[a0, a1, a2, a3]) w := run_loadVar_row w g 103 103 _ (0, 0) _ hg Tryz.underlying103 rfl (by kernel_rfl)
  rw [zR h, hp]
  simp [asAddr]
  exact h1
abbrev set4 (W : World) (g : Nat) (a0 a1 a2 a3 : Value) : World := (((W.setCell ⟨g, 0, none⟩ a0).setCell ⟨g, 1, none⟩ a1).setCell ⟨g, 2, none⟩ a2).setCell ⟨g, 3, none⟩ a3
theorem set4_same (W : World) (g : Nat) (t : TypeId) (z0 z1 z2 z3 a0 a1 a2 a3 : Value) (h : W.heap[g]? = some (.cells #[z0, z1, z2, z3] t)) : (set4 W g a0 a1 a2 a3).heap[g]? = some (.cells #[a0, a1, a2, a3] t) := by
  have h0 : (W.setCell ⟨g, 0, none⟩ a0).heap[g]? = some (.cells #[a0, z1, z2, z3] t) := heap_setCell_same _ g 0 _ t a0 h
  have h1 : ((W.setCell ⟨g, 0, none⟩ a0).setCell ⟨g, 1, none⟩ a1).heap[g]? = some (.cells #[a0, a1, z2, z3] t) := heap_setCell_same _ g 1 _ t a1 h0
  have h2 : (((W.setCell ⟨g, 0, none⟩ a0).setCell ⟨g, 1, none⟩ a1).setCell ⟨g, 2, none⟩ a2).heap[g]? = some (.cells #[a0, a1, a2, z3] t) := heap_setCell_same _ g 2 _ t a2 h1
  exact heap_setCell_same _ g 3 _ t a3 h2
theorem set4_other (W : World) (g : Nat) (a0 a1 a2 a3 : Value) (b : Nat) (hb : b ≠ g) : (set4 W g a0 a1 a2 a3).heap[b]? = W.heap[b]? := by
  rw [heap_setCell_other _ _ _ _ hb, heap_setCell_other _ _ _ _ hb, heap_setCell_other _ _ _ _ hb, heap_setCell_other _ _ _ _ hb]
theorem zZ (W : World) (g : Nat) (a0 a1 a2 a3 : Value) (b i : Nat) (hb : ¬ b = g) : (set4 W g a0 a1 a2 a3).cell? ⟨b, i, none⟩ = W.cell? ⟨b, i, none⟩ := by
  rw [World.cell?_setCell_far _ _ _ _ (fun e => hb e.symm), World.cell?_setCell_far _ _ _ _ (fun e => hb e.symm), World.cell?_setCell_far _ _ _ _ (fun e => hb e.symm), World.cell?_setCell_far _ _ _ _ (fun e => hb e.symm)]
theorem set4_drew (W : World) (g : Nat) (a0 a1 a2 a3 : Value) : set4 W.drew g a0 a1 a2 a3 = (set4 W g a0 a1 a2 a3).drew := rfl
structure FkI (w : World) (P : Nat) (yn : ByteArray) (at' : Int) (vp vb : Value) (W : World) : Prop where
  b0 : W.heap[w.heap.size]? = some (.cells #[.string yn, .int .i64 at', vp, vb] 86)
  b1 : W.heap[w.heap.size + 1]? = some (.cells #[.string ⟨#[]⟩, .int .i64 0, .slice none 0 0, .slice none 0 0] 103)
  bel : Below w.heap.size w W
theorem FkI.on {w : World} {P : Nat} {yn : ByteArray} {at' : Int} {vp vb : Value} {W W' : World} {R R' : Nat → Nat} (h : FkI w P yn at' vp vb W) (hP : P = w.heap.size + 3) (h0 : R w.heap.size = 0) (h1 : R (w.heap.size + 1) = 0) (hl : Lw P R R' W W') : FkI w P yn at' vp vb W' :=
  ⟨(hl.keep _ (Array.getElem?_eq_some_iff.1 h.b0).1 (.inl h0)).trans h.b0, (hl.keep _ (Array.getElem?_eq_some_iff.1 h.b1).1 (.inl h1)).trans h.b1, h.bel.trans (hl.bel.mono (by omega))⟩
theorem fk_end {w : World} {P mb : Nat} {R : Nat → Nat} {nm : By} {at' : Int} {vp vb : Value} {W : World} {s' : Wr} {n : Nat} {tv sv v1 v2 : Value} (h : FkI w P ⟨nm.toArray⟩ at' vp vb W) (hm : Wc R W P mb tv sv v1 v2 s') (h0 : R w.heap.size = 0) (h1 : R (w.heap.size + 1) = 0) (hPs : w.heap.size < P - 1) :
    (set4 W (w.heap.size + 1) (.string ⟨nm.toArray⟩) (.int .i64 (n : Int)) tv sv).heap[w.heap.size + 1]? = some (.cells #[.string ⟨nm.toArray⟩, .int .i64 (n : Int), tv, sv] 103) ∧ FkP nm n s' w (.returned (.agg #[.string ⟨nm.toArray⟩, .int .i64 (n : Int), tv, sv])) (set4 W (w.heap.size + 1) (.string ⟨nm.toArray⟩) (.int .i64 (n : Int)) tv sv) := by
  have hk := set4_other W (w.heap.size + 1) (.string ⟨nm.toArray⟩) (.int .i64 (n : Int)) tv sv
  refine ⟨set4_same W _ _ _ _ _ _ _ _ _ _ h.b1, tv, sv, rfl, ?_, ?_⟩
  · exact ⟨R, P, mb, _, _, hm.other h.b1 (by decide) h1 hk (by simp), hPs⟩
  · have hb : ∀ (X : World) (i : Nat) (v : Value), Below w.heap.size X (X.setCell ⟨w.heap.size + 1, i, none⟩ v) := fun X i v => (Below.refl _ _).setCell (p := ⟨w.heap.size + 1, i, none⟩) (Nat.le_succ _) _
    exact h.bel.trans ((((hb _ _ _).trans (hb _ _ _)).trans (hb _ _ _)).trans (hb _ _ _))
theorem function_any' (w : World) (nm : By) (at' : Int) (vp vb : Value) (nb : Nat) (ps : List (By × Int)) (body : Tr) (bcs : List Value) (hrp : RowS (Lo w.heap.size) w 144 2 vp ps.length (psC ps)) (hrb : RowS (Lo w.heap.size) w 147 7 vb nb bcs) (hst : StAt (Lo w.heap.size) w body bcs) {u : Unit} {s' : Wr} (hf : fnK ps body = some (u, s')) :
    Calls Tryz.prog 43 #[.agg #[.string ⟨nm.toArray⟩, .int .i64 at', vp, vb]] w (FkP nm ps.length s' w) := by
  obtain ⟨u1, s1, e1, hf⟩ := zg hf
  obtain ⟨u2, s2, e2, e3⟩ := zg hf
  obtain ⟨qp, cp, rfl⟩ := zd hrp.1
  obtain ⟨qb, cb, rfl⟩ := zd hrb.1
  obtain ⟨yn, hyn⟩ : ∃ y : ByteArray, y = ⟨nm.toArray⟩ := ⟨_, rfl⟩
  obtain ⟨W0, hW0⟩ : ∃ W0, W0 = (w.alloc (.cells #[.string yn, .int .i64 at', .slice qp ps.length cp, .slice qb nb cb] 86)).alloc (.cells #[.string ⟨#[]⟩, .int .i64 0, .slice none 0 0, .slice none 0 0] 103) := ⟨_, rfl⟩
  have hz0 : W0.heap.size = w.heap.size + 2 := by rw [hW0]; simp
  have hb0 : Below w.heap.size w W0 := by rw [hW0]; exact ((zt w _).trans ((zt _ _).mono (by simp)))
  have hi0 : W0.heap[w.heap.size]? = some (.cells #[.string yn, .int .i64 at', .slice qp ps.length cp, .slice qb nb cb] 86) := by
    rw [hW0, zc (by simp)]
    exact heap_alloc_last _ _
  have hi1 : W0.heap[w.heap.size + 1]? = some (.cells #[.string ⟨#[]⟩, .int .i64 0, .slice none 0 0, .slice none 0 0] 103) := by
    rw [hW0]
    have := heap_alloc_last (w.alloc (.cells #[.string yn, .int .i64 at', .slice qp ps.length cp, .slice qb nb cb] 86)) (.cells #[.string ⟨#[]⟩, .int .i64 0, .slice none 0 0, .slice none 0 0] 103)
    simpa using this
  obtain ⟨W4, hW4⟩ : ∃ W4, W4 = (W0.alloc (.map #[] 0)).alloc (.cells #[.slice none 0 0, .slice none 0 0, .map (some W0.heap.size), .slice none 0 0, .slice none 0 0, .slice none 0 0, .int .i64 0, .int .i64 0, .int .i64 0, .int .i64 (-1), .int .i64 0] 159) := ⟨_, rfl⟩
  have hm4 := wr_new W0
  rw [← hW4] at hm4
  have hb4 : Below W0.heap.size W0 W4 := by rw [hW4]; exact ((zt W0 _).trans ((zt _ _).mono (by simp)))
  have hz4 : W4.heap.size = W0.heap.size + 2 := by rw [hW4]; simp
  obtain ⟨P, hP⟩ : ∃ P, P = w.heap.size + 3 := ⟨_, rfl⟩
  obtain ⟨mb, hmb⟩ : ∃ mb, mb = w.heap.size + 2 := ⟨_, rfl⟩
  obtain ⟨R0, hR0⟩ : ∃ R0, R0 = rol0 P := ⟨_, rfl⟩
  rw [show W0.heap.size + 1 = P by omega, show W0.heap.size = mb by omega, ← hR0] at hm4
  have hfk : FkI w P yn at' (.slice qp ps.length cp) (.slice qb nb cb) W4 := ⟨(hb4.block _ (by omega)).trans hi0, (hb4.block _ (by omega)).trans hi1, hb0.trans (hb4.mono (by omega))⟩
  have hr0 : R0 w.heap.size = 0 := by rw [hR0]; unfold rol0; rw [if_neg (by omega), if_neg (by omega)]
  have hr1 : R0 (w.heap.size + 1) = 0 := by rw [hR0]; unfold rol0; rw [if_neg (by omega), if_neg (by omega)]
  have hmm : ∀ W : World, (Instr.makeMap 92 none).run Tryz.prog W = .ok (.map (some W.heap.size)) (W.alloc (.map #[] 0)) := fun W => by simp [Instr.makeMap, go_sem]
  obtain ⟨n, hn⟩ : ∃ n, n = ps.length := ⟨_, rfl⟩
  have HFk : Hid (∀ R' W, Lw P R0 R' W4 W → FkI w P yn at' (.slice qp n cp) (.slice qb nb cb) W ∧ R' w.heap.size = 0 ∧ R' (w.heap.size + 1) = 0) := fun R' W hl => by
    rw [hn]
    exact ⟨hfk.on hP hr0 hr1 hl, (hl.role _ (by omega)).trans hr0, (hl.role _ (by omega)).trans hr1⟩
  have HRp : Hid (∀ W, Below w.heap.size w W → W.ownsRow 0 144 2 (.slice qp n cp) n (psC ps)) := fun W hW => by
    rw [hn]
    exact (Keeps.row (S := Lo w.heap.size) (fun b cs t hb _ hc => by rw [hW.block b hb]; exact hc) (by decide) hrp.1 hrp.2)
  have HBd : Hid (∀ W, Below (P - 1) W4 W → RowS (Lo (P - 1)) W 147 7 (.slice qb nb cb) nb bcs ∧ StAt (Lo (P - 1)) W body bcs) := fun W hW => by
    have hk : Keeps (Lo w.heap.size) w W := fun b cs t hb _ hc => by
      have hb' : b < w.heap.size := hb
      rw [hW.block b (by omega), hfk.bel.block b hb]
      exact hc
    exact ⟨(hrb.kept hk (by decide)).mono (fun b hb _ => by have hb' : b < w.heap.size := hb; show b < P - 1; omega), StAt.mono (fun b hb _ => by have hb' : b < w.heap.size := hb; show b < P - 1; omega) _ _ (StAt.kept hk _ _ hst)⟩
  have HS : Hid (∃ Rr si, WrM Rr W4 P mb si ∧ Lw P R0 Rr W4 W4 ∧ paramsL (ps.drop 0) si = some (u1, s1)) := ⟨R0, wr0, hm4, Lw.refl _ _ _, e1⟩
  have HN : Hid (n = ps.length) := hn
  have HPP : Hid (P = w.heap.size + 3 ∧ mb = w.heap.size + 2 ∧ W4.heap.size = w.heap.size + 4) := ⟨hP, hmb, by omega⟩
  have hn5 : n ≤ 9223372036854775807 := by
    rcases hrp.1.2 with ⟨_, e⟩ | ⟨g, cap, cur, _, _, _, hle, hmx, _⟩
    · omega
    · unfold maxLen at hmx; omega
  obtain ⟨G, hG⟩ : ∃ G, G = FkP nm ps.length s' w := ⟨_, rfl⟩
  have HG : Hid (G = FkP nm ps.length s' w) := hG
  have HY : Hid (yn = ⟨nm.toArray⟩) := hyn
  rw [← hG, ← hyn, ← hn]
  have hW4' : W4 = (((w.alloc (.cells #[.string yn, .int .i64 at', .slice qp n cp, .slice qb nb cb] 86)).alloc (.cells #[.string ⟨#[]⟩, .int .i64 0, .slice none 0 0, .slice none 0 0] 103)).alloc (.map #[] 0)).alloc (.cells #[.slice none 0 0, .slice none 0 0, .map (some (w.heap.size + 1 + 1)), .slice none 0 0, .slice none 0 0, .slice none 0 0, .int .i64 0, .int .i64 0, .int .i64 0, .int .i64 (-1), .int .i64 0] 159) := by
    rw [hW4, hz0, hW0, hn]
  have HMd : Hid (∀ Rr wr si, WrM Rr wr P mb si → True) := fun _ _ _ _ => trivial
  have HD : Hid (∀ R' W, WrM R' W P mb s' → Lw P R0 R' W4 W → ∃ qt nt ct qv nv cv, W.cell? ⟨w.heap.size, 0, none⟩ = some (.string yn) ∧ W.cell? ⟨w.heap.size, 2, none⟩ = some (.slice qp n cp) ∧ W.cell? ⟨P, 0, none⟩ = some (.slice qt nt ct) ∧ W.cell? ⟨P, 1, none⟩ = some (.slice qv nv cv) ∧ W.heap[w.heap.size + 1]? = some (.cells #[.string ⟨#[]⟩, .int .i64 0, .slice none 0 0, .slice none 0 0] 103) ∧ (set4 W (w.heap.size + 1) (.string yn) (.int .i64 (n : Int)) (.slice qt nt ct) (.slice qv nv cv)).heap[w.heap.size + 1]? = some (.cells #[.string yn, .int .i64 (n : Int), (.slice qt nt ct), (.slice qv nv cv)] 103) ∧ G (.returned (.agg #[.string yn, .int .i64 (n : Int), (.slice qt nt ct), (.slice qv nv cv)])) (set4 W (w.heap.size + 1) (.string yn) (.int .i64 (n : Int)) (.slice qt nt ct) (.slice qv nv cv))) := fun R' W hm hl => by
    obtain ⟨hk, hz0', hz1'⟩ := HFk.out R' W hl
    obtain ⟨tv, sv, v1, v2, hw⟩ := hm
    rw [hyn] at hk
    obtain ⟨j1, j2⟩ := fk_end (n := n) hk hw hz0' hz1' (by omega)
    obtain ⟨qt, ct, rfl⟩ := zd hw.t
    obtain ⟨avs, x1, x2, x3⟩ := hw.st
    obtain ⟨qv, cv, rfl⟩ := zd x2
    refine ⟨qt, _, ct, qv, _, cv, ?_, z_ (i := 2) hk.b0 rfl, z_ (i := 0) hw.blk rfl, z_ (i := 1) hw.blk rfl, hk.b1, ?_, ?_⟩
    · rw [hyn]; exact z_ (i := 0) hk.b0 rfl
    · rw [hyn]; exact j1
    · rw [hyn, hG, ← hn]; exact j2
  clear hrp hrb hst hf e1 hyn hW0 hz0 hb0 hi0 hi1 hm4 hb4 hz4 hR0 hfk hr0 hr1 hn hG hW4 hmb HMd
  clear W0
  go_enter Tryz.func43, Tryz.ntmps43
  go_upto_region 3 with fail
  rw [← hW4']
  clear hW4'
  obtain ⟨hp1, hp2, hp3⟩ := HPP.out
  rw [show w.heap.size + 1 + 1 + 1 = P by omega]
  clear hp1 hp2 hp3 hP
  go_wp2_with fail
  go_loopw [13] (fun v wr => ∃ i : Nat, i ≤ n ∧ v = .int .i64 i ∧ Hid (∃ Rr si, WrM Rr wr P mb si ∧ Lw P R0 Rr W4 wr ∧ paramsL (ps.drop i) si = some (u1, s1))) (fun v _ => n - (intOf v).toNat)
  case atStart => exact ⟨0, Nat.zero_le _, rfl, HS⟩
  case round =>
    obtain ⟨i, hin, rfl, HI⟩ := hrel
    by_cases hlt : i < n
    · obtain ⟨⟨pn, pk⟩, hpi⟩ : ∃ p, ps[i]? = some p := ⟨ps[i]'(by have := HN.out; omega), List.getElem?_eq_getElem _⟩
      obtain ⟨Rr, si, hm, hl, hpl⟩ := HI.out
      obtain ⟨k, sa, v, sb, a1, a2, a3⟩ := params_next hpi hpl
      dsimp only at a1 a2
      obtain ⟨b1, b2, b3, rfl⟩ := bindL_some a2
      obtain ⟨hq1, hq2⟩ := psC_get ps i _ hpi
      have hrow := HRp.out wr (HFk.out Rr wr hl).1.bel
      obtain ⟨g, cap, hf1, hf2, -⟩ := hrow.form (by omega)
      injection hf1 with e1 e4 e5
      subst e1 e5
      clear e4
      obtain ⟨yk, hyk⟩ : ∃ y : ByteArray, y = ⟨pn.toArray⟩ := ⟨_, rfl⟩
      have c0 : wr.cell? ⟨g, i * 2, none⟩ = some (.string yk) := by
        have := hrow.cells (g := g) rfl (i * 2) _ hq1
        rw [add_at0] at this
        rw [hyk]
        exact this
      have c1 : wr.cell? ⟨g, i * 2 + 1, none⟩ = some (.int .i64 pk) := by
        have := hrow.cells (g := g) rfl (i * 2 + 1) _ hq2
        rw [add_at0] at this
        exact this
      clear hq1 hq2 hrow hpl hpi
      have hnb := hm
      obtain ⟨hm5, hl5, hb5, hr5⟩ := box_new hm hl #[.string yk, .int .i64 pk] 144
      obtain ⟨W5, hW5⟩ : ∃ W5, W5 = wr.alloc (.cells #[.string yk, .int .i64 pk] 144) := ⟨_, rfl⟩
      obtain ⟨b, hb⟩ : ∃ b, b = wr.heap.size := ⟨_, rfl⟩
      rw [← hW5, ← hb] at hb5
      rw [← hW5] at hm5 hl5
      rw [← hb] at hr5
      have hmd : WrM Rr W5.drew P mb si := hm5.on (fun _ _ => rfl) (zl _ _)
      have hld : Lw P R0 Rr W4 W5.drew := hl5.trans ⟨zl _ _, fun _ _ => rfl, fun _ _ _ => rfl⟩
      have hbd : W5.drew.heap[b]? = some (.cells #[.string yk, .int .i64 pk] 144) := (heap_drw _ _).trans hb5
      have HC : Hid (Calls Tryz.prog 68 #[ptr P, .int .i64 pk] W5.drew (LnP P Rr mb W5.drew (k : Int) sa)) := place_any hmd a1
      have g2 : W5.drew.cell? ⟨P, 2, none⟩ = some (.map (some mb)) := by
        obtain ⟨_, _, _, _, hh⟩ := hmd
        exact z_ (i := 2) hh.blk rfl
      have g0 : W5.drew.cell? ⟨b, 0, none⟩ = some (.string yk) := z_ (i := 0) hbd rfl
      have g1 : W5.drew.cell? ⟨b, 1, none⟩ = some (.int .i64 pk) := z_ (i := 1) hbd rfl
      have HU : Hid (∀ w6 R6, WrM R6 w6 P mb sa → Lw P Rr R6 W5.drew w6 → ∃ w7, (Instr.mapUpdate 92 (.map (some mb)) (.string yk) (.int .i64 (k : Int))).run Tryz.prog w6 = .ok () w7 ∧ (w6.cell? ⟨P, 2, none⟩ = some (.map (some mb)) ∧ w6.cell? ⟨b, 0, none⟩ = some (.string yk) ∧ w6.cell? ⟨b, 1, none⟩ = some (.int .i64 pk)) ∧ (w7.cell? ⟨P, 2, none⟩ = some (.map (some mb)) ∧ w7.cell? ⟨b, 0, none⟩ = some (.string yk) ∧ w7.cell? ⟨b, 1, none⟩ = some (.int .i64 pk)) ∧ Hid (∃ Rr si, WrM Rr w7 P mb si ∧ Lw P R0 Rr W4 w7 ∧ paramsL (ps.drop (i + 1)) si = some (u1, s1))) := fun w6 R6 k1 k2 => by
        obtain ⟨t1, t2, t3, t4, hh⟩ := k1
        obtain ⟨w7, j1, j2, j3⟩ := hh.bind pn k b2 b1 b3
        obtain ⟨j4, j5⟩ := k2.box hbd hr5
        obtain ⟨j6, -⟩ := j3.box j4 j5
        refine ⟨w7, by rw [hyk]; exact j1, ⟨z_ (i := 2) hh.blk rfl, z_ (i := 0) j4 rfl, z_ (i := 1) j4 rfl⟩, ⟨z_ (i := 2) j2.blk rfl, z_ (i := 0) j6 rfl, z_ (i := 1) j6 rfl⟩, R6, _, ⟨_, _, _, _, j2⟩, (hld.trans k2).trans j3, a3⟩
      have HH5 : Hid (W5 = wr.alloc (.cells #[.string yk, .int .i64 pk] 144) ∧ b = wr.heap.size) := ⟨hW5, hb⟩
      clear hm hl hnb a1 a2 a3 b1 b2 b3 hm5 hl5 hr5 hmd hld hbd hyk hb5
      go_upto_region 5 with fail
      rw [← hW5, ← hb]
      clear hW5 hb c0 c1
      go_region_held3 (fun w' => w'.cell? ⟨P, 2, none⟩ = some (.map (some mb)) ∧ w'.cell? ⟨b, 0, none⟩ = some (.string yk) ∧ w'.cell? ⟨b, 1, none⟩ = some (.int .i64 pk))
        (first | exact ⟨by assumption, by assumption, by assumption⟩ | (go_keep; done) | ((try dsimp only); refine ⟨?_, ?_, ?_⟩ <;> first | assumption | (go_keep; done) | (go_simp; done) | (simp [*]; done)))
        (first
        | (go_at_call 68; refine HC.out.mono ?_; rintro e w6 ⟨rfl, R6, hm6, hl6⟩; obtain ⟨w7, hU, ⟨k1, k2, k3⟩, ⟨m1, m2, m3⟩, HI7⟩ := HU.out w6 R6 hm6 hl6; clear hm6 hl6))
      all_goals
        go_wp2
        exact ⟨⟨i + 1, by omega, by go_num, HI7⟩, by simp [intOf]; omega⟩
    · obtain rfl : i = n := by omega
      obtain ⟨Rr, si, hm, hl, hpl⟩ := HI.out
      rw [List.drop_of_length_le (by have := HN.out; omega)] at hpl
      injection hpl with hpl
      injection hpl with h1 h2
      subst h2
      obtain ⟨hfi, hz0, hz1⟩ := HFk.out Rr wr hl
      obtain ⟨hB1, hB2⟩ := HBd.out wr hl.bel
      have HC2 : Hid (Calls Tryz.prog 69 #[ptr P, .slice qb nb cb] wr (LuP P Rr mb wr s2)) := blk_all 5000 100 Rr wr P mb _ s2 body _ nb bcs u2 hm hB1 hB2 e2
      have c3 : wr.cell? ⟨w.heap.size, 3, none⟩ = some (.slice qb nb cb) := z_ (i := 3) hfi.b0 rfl
      have HLr : Hid (Lw P R0 Rr W4 wr) := hl
      clear hm hl hfi hz0 hz1 hB1 hB2 e2 h1 HBd HRp HS HI
      go_wp2_with (go_at_call 69; fail)
      refine HC2.out.mono ?_
      rintro e w1 ⟨rfl, R1, hm1, hl1⟩
      have HL1 : Hid (Lw P R0 R1 W4 w1) := HLr.out.trans hl1
      clear hl1 HC2 c3
      obtain ⟨tv1, sv1, v11, v12, hw1⟩ := hm1
      obtain ⟨avs, l1, l2, l3⟩ := hw1.st
      obtain ⟨qs, cs, rfl⟩ := zd l2
      obtain ⟨m, hmm2⟩ : ∃ m, m = s2.ss.length := ⟨_, rfl⟩
      rw [← hmm2] at l2
      have d1 : w1.cell? ⟨P, 1, none⟩ = some (.slice qs m cs) := by rw [hmm2]; exact z_ (i := 1) hw1.blk rfl
      have hmx : m ≤ 1000000 := by have := hw1.ok.ss; omega
      have HMM : Hid (m = s2.ss.length) := hmm2
      have HS1 : Hid (WrM R1 w1 P mb s2) := ⟨_, _, _, _, hw1⟩
      clear hw1 hmm2 hmm
      by_cases hm0 : m = 0
      · subst hm0
        have he : s2.ss = [] := List.length_eq_zero_iff.1 HMM.out.symm
        have hz : (lb zeroL fun z => qU { ms0 with code := 8, a := z }) s2 = some (u, s') := by
          unfold endL endsL at e3
          rw [he] at e3
          exact e3
        obtain ⟨z, s3, z1, z2⟩ := zg hz
        have HZ : Hid (∀ R W, WrM R W P mb s2 → Calls Tryz.prog 71 #[ptr P] W (LnP P R mb W (z : Int) s3)) := fun R W h => zero_any h z1
        have HA : Hid (∀ R W, WrM R W P mb s3 → Calls Tryz.prog 70 #[ptr P, .agg #[.int .i64 8, .int .i64 0, .int .i64 (z : Int), .int .i64 0, .int .i64 0, .int .i64 0, .string ⟨#[]⟩, .int .i64 0, .string ⟨#[]⟩, .slice none 0 0]] W (LuP P R mb W s')) := fun R W h => add_y 8 0 (z : Int) 0 0 0 ⟨#[]⟩ 0 ⟨#[]⟩ [] none 0 0 h (ArAt.none _ _) z2
        clear l1 l2 l3 he hz z1 z2 hf e3
        go_wp2_with (go_at_call 71; fail)
        refine (HZ.out R1 w1 HS1.out).mono ?_
        rintro e w2 ⟨rfl, R2, hm2, hl2⟩
        have HL2 : Hid (Lw P R0 R2 W4 w2) := HL1.out.trans hl2
        have HC3 : Hid (Calls Tryz.prog 70 #[ptr P, .agg #[.int .i64 8, .int .i64 0, .int .i64 (z : Int), .int .i64 0, .int .i64 0, .int .i64 0, .string ⟨#[]⟩, .int .i64 0, .string ⟨#[]⟩, .slice none 0 0]] w2 (LuP P R2 mb w2 s')) := HA.out R2 w2 hm2
        clear hm2 hl2
        go_wp2_with (go_at_call 70; fail)
        refine HC3.out.mono ?_
        rintro e w3 ⟨rfl, R3, hm3, hl3⟩
        have HL3 : Lw P R0 R3 W4 w3 := HL2.out.trans hl3
        clear hl3
        have hmd : WrM R3 w3.drew P mb s' := hm3.on (fun _ _ => rfl) (zl _ _)
        have hld : Lw P R0 R3 W4 w3.drew := HL3.trans ⟨zl _ _, fun _ _ => rfl, fun _ _ _ => rfl⟩
        obtain ⟨qt, nt, ct, qv, nv, cv, q0, q2, p0, p1, r0, r1, r2⟩ := HD.out R3 w3.drew hmd hld
        have HR1 : Hid ((set4 w3 (w.heap.size + 1) (.string yn) (.int .i64 (i : Int)) (.slice qt nt ct) (.slice qv nv cv)).drew.heap[w.heap.size + 1]? = some (.cells #[.string yn, .int .i64 (i : Int), (.slice qt nt ct), (.slice qv nv cv)] 103)) := by
          rw [set4_drew] at r1
          exact r1
        have HR2 : Hid (G (.returned (.agg #[.string yn, .int .i64 (i : Int), (.slice qt nt ct), (.slice qv nv cv)])) (set4 w3 (w.heap.size + 1) (.string yn) (.int .i64 (i : Int)) (.slice qt nt ct) (.slice qv nv cv)).drew) := by
          rw [set4_drew] at r2
          exact r2
        have hPn : ¬ P = w.heap.size + 1 := by have := HPP.out; omega
        have hPm : ¬ w.heap.size + 1 = P := by have := HPP.out; omega
        have s0 : w3.heap[w.heap.size + 1]? = some (.cells #[.string ⟨#[]⟩, .int .i64 0, .slice none 0 0, .slice none 0 0] 103) := (heap_drw _ _).symm.trans r0
        have y0 : w3.cell? ⟨w.heap.size + 1, 0, none⟩ = some (.string ⟨#[]⟩) := z_ (i := 0) s0 rfl
        have y1 : w3.cell? ⟨w.heap.size + 1, 1, none⟩ = some (.int .i64 0) := z_ (i := 1) s0 rfl
        have y2 : w3.cell? ⟨w.heap.size + 1, 2, none⟩ = some (.slice none 0 0) := z_ (i := 2) s0 rfl
        have y3 : w3.cell? ⟨w.heap.size + 1, 3, none⟩ = some (.slice none 0 0) := z_ (i := 3) s0 rfl
        have g0 := zb s0 0
        have g1 := zb s0 1
        have g2 := zb s0 2
        have g3 := zb s0 3
        clear hmd hld r0 s0 r1 r2
        go_upto_region 11 with fail
        go_region_held3 (fun w' => w'.cell? ⟨w.heap.size, 0, none⟩ = some (.string yn) ∧ w'.cell? ⟨w.heap.size, 2, none⟩ = some (.slice qp i cp) ∧ w'.cell? ⟨P, 0, none⟩ = some (.slice qt nt ct) ∧ w'.cell? ⟨P, 1, none⟩ = some (.slice qv nv cv))
          (first | exact ⟨by with_reducible assumption, by with_reducible assumption, by with_reducible assumption, by with_reducible assumption⟩ | exact ⟨(zZ _ _ _ _ _ _ _ _ (by omega)).trans q0, (zZ _ _ _ _ _ _ _ _ (by omega)).trans q2, (zZ _ _ _ _ _ _ _ _ hPn).trans p0, (zZ _ _ _ _ _ _ _ _ hPn).trans p1⟩)
          (fail)
        all_goals
          go_wp2
          refine bodyPost_ret (res103 Tryz.results43 _ _ (w.heap.size + 1) _ _ _ _ rfl HR1.out) rfl ?_
          exact HR2.out
      · obtain ⟨x, hx, hxe⟩ : ∃ x, s2.ss[m - 1]? = some x ∧ endsL s2.ss = (x.code == 8) := by
          have hlt : m - 1 < s2.ss.length := by have := HMM.out; omega
          refine ⟨s2.ss[m - 1]'hlt, List.getElem?_eq_getElem hlt, ?_⟩
          unfold endsL
          rw [List.getLast?_eq_getElem?, ← HMM.out, List.getElem?_eq_getElem hlt]
        obtain ⟨y, hy⟩ : ∃ y, avs[m - 1]? = some y := ⟨avs[m - 1]'(by have := HMM.out; omega), List.getElem?_eq_getElem _⟩
        obtain ⟨gs, cap, hf1, hf2, -⟩ := l2.form (by omega)
        injection hf1 with g1 g4 g5
        subst g1 g5
        clear g4
        have d2 : w1.cell? ⟨gs, (m - 1) * 10, none⟩ = some (.int .i64 x.code) := by
          have := l2.cells (g := gs) rfl ((m - 1) * 10 + 0) (.int .i64 x.code) (by rw [rowV_get s2.ss avs (m - 1) x y hx hy 0 (by omega)]; rfl)
          rw [add_at0] at this
          exact this
        obtain ⟨xc, hxc⟩ : ∃ xc, xc = x.code := ⟨_, rfl⟩
        rw [← hxc] at d2 hxe
        obtain ⟨mm, rfl⟩ : ∃ mm, m = mm + 1 := ⟨m - 1, by omega⟩
        rw [Nat.add_sub_cancel] at d2
        have hwr : IntKind.i64.wrap (((mm + 1 : Nat) : Int) - 1) = (mm : Int) := by
          rw [IntKind.wrap_i64]
          omega
        have hwr2 : IntKind.i64.wrap (mm : Int) = (mm : Int) := by
          rw [IntKind.wrap_i64]
          omega
        clear l1 l2 l3 hx hy hxc hm0 hf2
        by_cases h8 : xc = 8
        · subst h8
          have he : s' = s2 := by
            unfold endL at e3
            rw [if_pos (by rw [hxe]; rfl)] at e3
            injection e3 with e3
            injection e3 with _ e3
            exact e3.symm
          subst he
          clear hf e3 hxe
          have hm3 : WrM R1 w1 P mb s' := HS1.out
          have HL3 : Lw P R0 R1 W4 w1 := HL1.out
          have hmd : WrM R1 w1.drew P mb s' := hm3.on (fun _ _ => rfl) (zl _ _)
          have hld : Lw P R0 R1 W4 w1.drew := HL3.trans ⟨zl _ _, fun _ _ => rfl, fun _ _ _ => rfl⟩
          obtain ⟨qt, nt, ct, qv, nv, cv, q0, q2, p0, p1, r0, r1, r2⟩ := HD.out R1 w1.drew hmd hld
          have HR1 : Hid ((set4 w1 (w.heap.size + 1) (.string yn) (.int .i64 (i : Int)) (.slice qt nt ct) (.slice qv nv cv)).drew.heap[w.heap.size + 1]? = some (.cells #[.string yn, .int .i64 (i : Int), (.slice qt nt ct), (.slice qv nv cv)] 103)) := by
            rw [set4_drew] at r1
            exact r1
          have HR2 : Hid (G (.returned (.agg #[.string yn, .int .i64 (i : Int), (.slice qt nt ct), (.slice qv nv cv)])) (set4 w1 (w.heap.size + 1) (.string yn) (.int .i64 (i : Int)) (.slice qt nt ct) (.slice qv nv cv)).drew) := by
            rw [set4_drew] at r2
            exact r2
          have hPn : ¬ P = w.heap.size + 1 := by have := HPP.out; omega
          have hPm : ¬ w.heap.size + 1 = P := by have := HPP.out; omega
          have s0 : w1.heap[w.heap.size + 1]? = some (.cells #[.string ⟨#[]⟩, .int .i64 0, .slice none 0 0, .slice none 0 0] 103) := (heap_drw _ _).symm.trans r0
          have y0 : w1.cell? ⟨w.heap.size + 1, 0, none⟩ = some (.string ⟨#[]⟩) := z_ (i := 0) s0 rfl
          have y1 : w1.cell? ⟨w.heap.size + 1, 1, none⟩ = some (.int .i64 0) := z_ (i := 1) s0 rfl
          have y2 : w1.cell? ⟨w.heap.size + 1, 2, none⟩ = some (.slice none 0 0) := z_ (i := 2) s0 rfl
          have y3 : w1.cell? ⟨w.heap.size + 1, 3, none⟩ = some (.slice none 0 0) := z_ (i := 3) s0 rfl
          have g0 := zb s0 0
          have g1 := zb s0 1
          have g2 := zb s0 2
          have g3 := zb s0 3
          clear hmd hld r0 s0 r1 r2
          go_upto_region 11 with fail
          go_region_held3 (fun w' => w'.cell? ⟨w.heap.size, 0, none⟩ = some (.string yn) ∧ w'.cell? ⟨w.heap.size, 2, none⟩ = some (.slice qp i cp) ∧ w'.cell? ⟨P, 0, none⟩ = some (.slice qt nt ct) ∧ w'.cell? ⟨P, 1, none⟩ = some (.slice qv nv cv))
            (first | exact ⟨by with_reducible assumption, by with_reducible assumption, by with_reducible assumption, by with_reducible assumption⟩ | exact ⟨(zZ _ _ _ _ _ _ _ _ (by omega)).trans q0, (zZ _ _ _ _ _ _ _ _ (by omega)).trans q2, (zZ _ _ _ _ _ _ _ _ hPn).trans p0, (zZ _ _ _ _ _ _ _ _ hPn).trans p1⟩)
            (fail)
          all_goals
            go_wp2
            refine bodyPost_ret (res103 Tryz.results43 _ _ (w.heap.size + 1) _ _ _ _ rfl HR1.out) rfl ?_
            exact HR2.out
        · have hz : (lb zeroL fun z => qU { ms0 with code := 8, a := z }) s2 = some (u, s') := by
            unfold endL at e3
            rw [if_neg (by rw [hxe]; simpa using h8)] at e3
            exact e3
          have hb8 : (xc != 8) = true := by simpa using h8
          have hm8 : ((mm : Int) + 1 == 0) = false := by
            have : ¬ ((mm : Int) + 1 = 0) := by omega
            simpa using this
          obtain ⟨z, s3, z1, z2⟩ := zg hz
          have HZ : Hid (∀ R W, WrM R W P mb s2 → Calls Tryz.prog 71 #[ptr P] W (LnP P R mb W (z : Int) s3)) := fun R W h => zero_any h z1
          have HA : Hid (∀ R W, WrM R W P mb s3 → Calls Tryz.prog 70 #[ptr P, .agg #[.int .i64 8, .int .i64 0, .int .i64 (z : Int), .int .i64 0, .int .i64 0, .int .i64 0, .string ⟨#[]⟩, .int .i64 0, .string ⟨#[]⟩, .slice none 0 0]] W (LuP P R mb W s')) := fun R W h => add_y 8 0 (z : Int) 0 0 0 ⟨#[]⟩ 0 ⟨#[]⟩ [] none 0 0 h (ArAt.none _ _) z2
          clear hz z1 z2 hf e3 hxe
          go_upto_region 10 with fail
          go_wp2_with (go_at_call 71; fail)
          refine (HZ.out R1 w1 HS1.out).mono ?_
          rintro e w2 ⟨rfl, R2, hm2, hl2⟩
          have HL2 : Hid (Lw P R0 R2 W4 w2) := HL1.out.trans hl2
          have HC3 : Hid (Calls Tryz.prog 70 #[ptr P, .agg #[.int .i64 8, .int .i64 0, .int .i64 (z : Int), .int .i64 0, .int .i64 0, .int .i64 0, .string ⟨#[]⟩, .int .i64 0, .string ⟨#[]⟩, .slice none 0 0]] w2 (LuP P R2 mb w2 s')) := HA.out R2 w2 hm2
          clear hm2 hl2
          go_wp2_with (go_at_call 70; fail)
          refine HC3.out.mono ?_
          rintro e w3 ⟨rfl, R3, hm3, hl3⟩
          have HL3 : Lw P R0 R3 W4 w3 := HL2.out.trans hl3
          clear hl3
          have hmd : WrM R3 w3.drew P mb s' := hm3.on (fun _ _ => rfl) (zl _ _)
          have hld : Lw P R0 R3 W4 w3.drew := HL3.trans ⟨zl _ _, fun _ _ => rfl, fun _ _ _ => rfl⟩
          obtain ⟨qt, nt, ct, qv, nv, cv, q0, q2, p0, p1, r0, r1, r2⟩ := HD.out R3 w3.drew hmd hld
          have HR1 : Hid ((set4 w3 (w.heap.size + 1) (.string yn) (.int .i64 (i : Int)) (.slice qt nt ct) (.slice qv nv cv)).drew.heap[w.heap.size + 1]? = some (.cells #[.string yn, .int .i64 (i : Int), (.slice qt nt ct), (.slice qv nv cv)] 103)) := by
            rw [set4_drew] at r1
            exact r1
          have HR2 : Hid (G (.returned (.agg #[.string yn, .int .i64 (i : Int), (.slice qt nt ct), (.slice qv nv cv)])) (set4 w3 (w.heap.size + 1) (.string yn) (.int .i64 (i : Int)) (.slice qt nt ct) (.slice qv nv cv)).drew) := by
            rw [set4_drew] at r2
            exact r2
          have hPn : ¬ P = w.heap.size + 1 := by have := HPP.out; omega
          have hPm : ¬ w.heap.size + 1 = P := by have := HPP.out; omega
          have s0 : w3.heap[w.heap.size + 1]? = some (.cells #[.string ⟨#[]⟩, .int .i64 0, .slice none 0 0, .slice none 0 0] 103) := (heap_drw _ _).symm.trans r0
          have y0 : w3.cell? ⟨w.heap.size + 1, 0, none⟩ = some (.string ⟨#[]⟩) := z_ (i := 0) s0 rfl
          have y1 : w3.cell? ⟨w.heap.size + 1, 1, none⟩ = some (.int .i64 0) := z_ (i := 1) s0 rfl
          have y2 : w3.cell? ⟨w.heap.size + 1, 2, none⟩ = some (.slice none 0 0) := z_ (i := 2) s0 rfl
          have y3 : w3.cell? ⟨w.heap.size + 1, 3, none⟩ = some (.slice none 0 0) := z_ (i := 3) s0 rfl
          have g0 := zb s0 0
          have g1 := zb s0 1
          have g2 := zb s0 2
          have g3 := zb s0 3
          clear hmd hld r0 s0 r1 r2
          go_upto_region 11 with fail
          go_region_held3 (fun w' => w'.cell? ⟨w.heap.size, 0, none⟩ = some (.string yn) ∧ w'.cell? ⟨w.heap.size, 2, none⟩ = some (.slice qp i cp) ∧ w'.cell? ⟨P, 0, none⟩ = some (.slice qt nt ct) ∧ w'.cell? ⟨P, 1, none⟩ = some (.slice qv nv cv))
            (first | exact ⟨by with_reducible assumption, by with_reducible assumption, by with_reducible assumption, by with_reducible assumption⟩ | exact ⟨(zZ _ _ _ _ _ _ _ _ (by omega)).trans q0, (zZ _ _ _ _ _ _ _ _ (by omega)).trans q2, (zZ _ _ _ _ _ _ _ _ hPn).trans p0, (zZ _ _ _ _ _ _ _ _ hPn).trans p1⟩)
            (fail)
          all_goals
            go_wp2
            refine bodyPost_ret (res103 Tryz.results43 _ _ (w.heap.size + 1) _ _ _ _ rfl HR1.out) rfl ?_
            exact HR2.out
end Go.Proofs.YtnfhpdbbfejioaaGreatDoor.Mid
