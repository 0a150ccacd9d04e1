/- Package machine's Run, walked. -/
import Derived.Test.YtaodcpdkobhmfaaDoorMG
import Derived.Test.YtaodcpdkobhmfaaDoorH8
namespace Go.Proofs.YtaodcpdkobhmfaaDoor
open Go Go.RowKit

/-- So many steps. -/
def runV (L : Nat) : Nat → MS → MS
  | 0, m => m
  | k + 1, m => runV L k (stepV L m)

theorem stepV_ended {L : Nat} {m : MS} (h : m.way ≠ 0) : stepV L m = m := by unfold stepV; rw [if_neg h]
theorem runV_ended {L : Nat} {m : MS} (h : m.way ≠ 0) (k : Nat) : runV L k m = m := by
  induction k with
  | zero => rfl
  | succ k ih => unfold runV; rw [stepV_ended h]; exact ih
theorem runV_add (L a b : Nat) (m : MS) : runV L (a + b) m = runV L b (runV L a m) := by
  induction a generalizing m with
  | zero => simp [runV]
  | succ a ih => rw [show a + 1 + b = (a + b) + 1 by omega]; simp only [runV]; exact ih _
theorem runV_succ (L k : Nat) (m : MS) : runV L (k + 1) m = stepV L (runV L k m) := by
  rw [runV_add L k 1 m]; rfl

/-- The Way that Run tells. -/
def wayV (m : MS) : Int := if m.way = 0 then 6 else m.way
theorem wayV_0 {m : MS} (h : m.way = 0) : wayV m = 6 := by unfold wayV; rw [if_pos h]
theorem wayV_1 {m : MS} {W : Int} (h : m.way = W) (hw : W ≠ 0) : wayV m = W := by unfold wayV; rw [if_neg (by rw [h]; exact hw), h]

theorem res17 (tmps : Array Value) (w : World) (g : Nat) (a b c : Value) (hp : tmps.getD 4 undef = .pointer (some ⟨g, 0, none⟩)) (hg : w.heap[g]? = some (.cells #[a, b, c] 44)) :
    (results Tryd.f17 tmps).run Tryd.prog w = .ok (.agg #[a, b, c]) w :=
  results_cell_row (p := 4) (ty := 44) Tryd.results17 _ _ g 44 _ (0, 0) _ hp hg Tryd.underlying44 rfl (by kernel_rfl)

/-- Behind Run: the machine, and a list of its own of what was told. -/
structure Ran (w : World) (B s mb L : Nat) (m : MS) (ov v' : Value) (w' : World) (gv' ov' : Value) : Prop where
  mac : Mac w' B s mb L m gv' ov'
  off : Off (Ws s mb ov) w w'
  ovk : ∀ k, ov'.ownBlock = some k → ov.ownBlock = some k ∨ w.heap.size ≤ k
  own : w'.ownsRow w.heap.size 2 1 v' m.out.length (outL m.out)
  apart : ∀ k, v'.ownBlock = some k → ov'.ownBlock ≠ some k

abbrev z3W (w : World) : World := w.alloc (.cells #[.int .i64 0, .int .i64 0, .slice none 0 0] 44)

theorem ran_fin {w wr w4 : World} {B s mb L n : Nat} {m m1 : MS} {gv ov gv1 ov1 v' : Value} (hM : Mac w B s mb L m gv ov) (hM1 : Mac wr B s mb L m1 gv1 ov1) (hO : Off (Ws s mb ov) (z3W w) wr) (hK : ∀ k, ov1.ownBlock = some k → ov.ownBlock = some k ∨ (z3W w).heap.size ≤ k)
    (hB : Below wr.heap.size wr w4) (hn : m1.out.length = n) (hW : w4.ownsRow wr.heap.size 2 1 v' n (outL m1.out)) (a b : Value) (o : Obj) :
    Ran w B s mb L m1 ov v' ((((w4.setCell ⟨w.heap.size, 0, none⟩ a).setCell ⟨w.heap.size, 1, none⟩ b).setCell ⟨w.heap.size, 2, none⟩ v').alloc o) gv1 ov1 := by
  subst hn
  have hz := hO.size
  simp at hz
  have hs := hM.core.s0
  have hb := hM.core.b0
  have o5 : Off (· = w.heap.size) w4 (((w4.setCell ⟨w.heap.size, 0, none⟩ a).setCell ⟨w.heap.size, 1, none⟩ b).setCell ⟨w.heap.size, 2, none⟩ v') := ((off_s _ _).trans (off_s _ _)).trans (off_s _ _)
  have m5 := (hM1.grown hB).high o5 (fun k _ e => by
    subst e
    refine ⟨hs, by omega, fun e => ?_⟩
    rcases hK _ e with h | h
    · have := (hM.ob h).2; omega
    · simp at h; omega)
  refine ⟨m5.grown ((Below.refl _ _).alloc (Nat.le_refl _) _), ?_, fun k e => ?_, ?_, fun k e e' => ?_⟩
  · have q1 : Off (Ws s mb ov) w wr := ((Off.refl _ _).alloc _).trans' hO (fun _ _ e => e)
    have q2 : Off (Ws s mb ov) w w4 := q1.trans' (Off.of_below (S := fun _ => False) hB) (fun _ _ e => e.elim)
    exact (q2.trans' o5 (fun i hi e => by omega)).alloc _
  · rcases hK k e with h | h
    · exact .inl h
    · right; simp at h; omega
  · exact (own_mono (ownsRow_setCell_below (ownsRow_setCell_below (ownsRow_setCell_below hW (a := ⟨w.heap.size, 0, none⟩) (by simp; omega) _) (a := ⟨w.heap.size, 1, none⟩) (by simp; omega) _) (a := ⟨w.heap.size, 2, none⟩) (by simp; omega) _) (by omega)).alloc _
  · have h1 := (hW.lt k e).1
    have h2 := (hM1.ob e').2
    omega

theorem row_fin {w4 : World} {g : Nat} (a b c : Value) (o : Obj) (hl : g < w4.heap.size) (h : w4.heap[g]? = some (.cells #[.int .i64 0, .int .i64 0, .slice none 0 0] 44)) :
    ((((w4.setCell ⟨g, 0, none⟩ a).setCell ⟨g, 1, none⟩ b).setCell ⟨g, 2, none⟩ c).alloc o).heap[g]? = some (.cells #[a, b, c] 44) := by
  rw [Below.heap_alloc _ _ _ (by simpa [World.setCell] using hl)]
  exact heap_setCell_same _ g 2 _ 44 c (heap_setCell_same _ g 1 _ 44 b (heap_setCell_same _ g 0 _ 44 a h))

set_option maxRecDepth 100000 in
set_option maxHeartbeats 2000000 in
theorem run_any (w : World) (B s mb L F : Nat) (m : MS) (gv ov : Value) (h : Mac w B s mb L m gv ov) (ht : Tabs T w) (hF : F ≤ 1000000) :
    Calls Tryd.prog 17 #[.pointer (some ⟨s, 0, none⟩), .int .i64 (F : Int)] w fun e w' => ∃ v' gv' ov', e = .returned (.agg #[.int .i64 (wayV (runV L F m)), .int .i64 (runV L F m).code, v']) ∧ Ran w B s mb L (runV L F m) ov v' w' gv' ov' := by
  have HM : Hid (Mac w B s mb L m gv ov) := h
  have HT : Hid (Tabs T w) := ht
  have hs := h.core.s0
  clear h ht
  go_enter Tryd.func17, Tryd.ntmps17
  go_wp2_with fail
  go_loopw [1] (fun fv wr => ∃ f : Nat, f ≤ F ∧ fv = .int .i64 f ∧ Hid (Post (z3W w) B s mb L (runV L (F - f) m) ov wr ∧ Tabs T wr)) (fun fv _ => (intOf fv).toNat)
  case atStart =>
    refine ⟨F, Nat.le_refl _, rfl, ?_⟩
    have hb : Below w.heap.size w (z3W w) := (Below.refl _ _).alloc (Nat.le_refl _) _
    rw [Nat.sub_self]
    exact ⟨Post.of (HM.out.grown hb) (Off.refl _ _), HT.out.below hb⟩
  case round =>
    obtain ⟨f, hf, rfl, hp⟩ := hrel
    obtain ⟨⟨gv1, ov1, hm, ho, hk⟩, ht1⟩ := hp.out
    have HM1 : Hid (Mac wr B s mb L (runV L (F - f) m) gv1 ov1) := hm
    have HO1 : Hid (Off (Ws s mb ov) (z3W w) wr) := ho
    have HK1 : Hid (∀ k, ov1.ownBlock = some k → ov.ownBlock = some k ∨ (z3W w).heap.size ≤ k) := hk
    have HT1 : Hid (Tabs T wr) := ht1
    have c35 := hm.core.way
    clear hm ho hk ht1 hp
    by_cases hgo : 0 < f ∧ (runV L (F - f) m).way = 0
    · obtain ⟨hf0, hw0⟩ := hgo
      rw [hw0] at c35
      have HX : Hid (stepV L (runV L (F - f) m) = runV L (F - (f - 1)) m) := by show _ = _; rw [← runV_succ]; congr 1; omega
      clear hw0
      go_wp2_with (go_at_call 9; refine (step_any _ B s mb L _ gv1 ov1 HM1.out HT1.out).mono ?_; rintro e w2 ⟨rfl, hp2⟩)
      refine ⟨⟨f - 1, by omega, by go_num, ?_⟩, by simp [intOf]; omega⟩
      rw [← HX.out]
      exact ⟨Post.trans HO1.out HK1.out hp2, Post.tabs HM1.out HT1.out hp2⟩
    · have hE : runV L (F - f) m = runV L F m := by
        by_cases h0 : f = 0
        · subst h0; rfl
        · have hw : (runV L (F - f) m).way ≠ 0 := fun e => hgo ⟨by omega, e⟩
          have := runV_add L (F - f) f m
          rw [show F - f + f = F by omega, runV_ended hw] at this
          exact this.symm
      rw [hE] at HM1 c35 hgo
      clear hE
      obtain ⟨W, hW⟩ : ∃ W, (runV L F m).way = W := ⟨_, rfl⟩
      obtain ⟨C, hC⟩ : ∃ C, (runV L F m).code = C := ⟨_, rfl⟩
      obtain ⟨n, hn⟩ : ∃ n, (runV L F m).out.length = n := ⟨_, rfl⟩
      have HEND : Hid (Calls Tryd.prog 24 #[.pointer (some ⟨s, 0, none⟩)] wr fun e w' => ∃ v', e = .returned (.agg #[.int .i64 (runV L F m).way, .int .i64 (runV L F m).code, v']) ∧ w'.ownsRow wr.heap.size 2 1 v' (runV L F m).out.length (outL (runV L F m).out) ∧ Below wr.heap.size wr w') := end_any wr B s mb L _ gv1 ov1 HM1.out
      rw [hW, hC, hn] at HEND
      rw [hW] at c35 hgo
      have HW : Hid ((runV L F m).way = W) := hW
      have HC : Hid ((runV L F m).code = C) := hC
      have HN : Hid ((runV L F m).out.length = n) := hn
      clear hW hC hn
      have hz := HO1.out.size
      simp at hz
      have R0 : Hid (wr.heap[w.heap.size]? = some (.cells #[.int .i64 0, .int .i64 0, .slice none 0 0] 44)) := by
        show _ = _
        rw [HO1.out.block _ (by simp) ?_]
        · exact heap_alloc_last w _
        · have := HM.out.core.b0
          rintro (e | e | e)
          · omega
          · omega
          · have := (HM.out.ob e).2; omega
      have h3 : (f = 0 ∧ W = 0) ∨ (f = 0 ∧ W ≠ 0) ∨ (0 < f ∧ W ≠ 0) := by omega
      clear hgo
      rcases h3 with ⟨rfl, rfl⟩ | ⟨rfl, hw⟩ | ⟨hf0, hw⟩
      all_goals
        go_wp2_with (go_at_call 24; fail)
        refine HEND.out.mono ?_
        rintro e w4 ⟨v', rfl, hown, hb⟩
        obtain ⟨q', c', hv'⟩ := own_form hown
        have HOW : Hid (w4.ownsRow wr.heap.size 2 1 v' n (outL (runV L F m).out)) := hown
        have HB4 : Hid (Below wr.heap.size wr w4) := hb
        have R4 : w4.heap[w.heap.size]? = some (.cells #[.int .i64 0, .int .i64 0, .slice none 0 0] 44) := by
          rw [hb.block _ (by omega)]; exact R0.out
        have z0 : w4.cell? ⟨w.heap.size, 0, none⟩ = some (.int .i64 0) := by rw [cell_of_row _ _ _ _ _ _ R4]; rfl
        have z1 : w4.cell? ⟨w.heap.size, 1, none⟩ = some (.int .i64 0) := by rw [cell_of_row _ _ _ _ _ _ R4]; rfl
        have z2 : w4.cell? ⟨w.heap.size, 2, none⟩ = some (.slice none 0 0) := by rw [cell_of_row _ _ _ _ _ _ R4]; rfl
        have zf : ∀ i, w4.frozen? ⟨w.heap.size, i, none⟩ = false := fun i => frozen_row R4 i
        have l4 : w.heap.size < w4.heap.size := by have := hb.size; omega
        have HR4 : Hid (w4.heap[w.heap.size]? = some (.cells #[.int .i64 0, .int .i64 0, .slice none 0 0] 44)) := R4
        subst hv'
        clear hb hown R4
        go_wp2_with fail
      · exact bodyPost_ret (res17 _ _ w.heap.size (.int .i64 6) (.int .i64 C) (.slice q' n c') rfl (row_fin _ _ _ _ l4 HR4.out)) rfl ⟨.slice q' n c', gv1, ov1, by rw [wayV_0 HW.out, HC.out], ran_fin HM.out HM1.out HO1.out HK1.out HB4.out HN.out HOW.out _ _ _⟩
      · exact bodyPost_ret (res17 _ _ w.heap.size (.int .i64 W) (.int .i64 C) (.slice q' n c') rfl (row_fin _ _ _ _ l4 HR4.out)) rfl ⟨.slice q' n c', gv1, ov1, by rw [wayV_1 HW.out hw, HC.out], ran_fin HM.out HM1.out HO1.out HK1.out HB4.out HN.out HOW.out _ _ _⟩
      · exact bodyPost_ret (res17 _ _ w.heap.size (.int .i64 W) (.int .i64 C) (.slice q' n c') rfl (row_fin _ _ _ _ l4 HR4.out)) rfl ⟨.slice q' n c', gv1, ov1, by rw [wayV_1 HW.out hw, HC.out], ran_fin HM.out HM1.out HO1.out HK1.out HB4.out HN.out HOW.out _ _ _⟩
end Go.Proofs.YtaodcpdkobhmfaaDoor
