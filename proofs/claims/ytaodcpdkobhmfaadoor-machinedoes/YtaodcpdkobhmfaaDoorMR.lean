/- The document's Run, walked. The document's NewMachine of no words; of whatever words. -/
import Derived.Test.YtaodcpdkobhmfaaDoorT5
import Derived.Test.YtaodcpdkobhmfaaDoorML
namespace Go.Proofs.YtaodcpdkobhmfaaDoor
open Go Go.RowKit

theorem res18 (tmps : Array Value) (w : World) (g : Nat) (a b c : Value) (hp : tmps.getD 4 undef = .pointer (some ⟨g, 0, none⟩)) (hg : w.heap[g]? = some (.cells #[a, b, c] 44)) :
    (results Tryd.f18 tmps).run Tryd.prog w = .ok (.agg #[a, b, c]) w :=
  results_cell_row (p := 4) (ty := 44) Tryd.results18 _ _ g 44 _ (0, 0) _ hp hg Tryd.underlying44 rfl (by kernel_rfl)

theorem DMac.high {w w' : World} {B s mb n L : Nat} {m : MS} {gv ov : Value} (h : DMac w B s mb n L m gv ov) {S : Nat → Prop} (ho : Off S w w') (hs : ∀ k, k < w.heap.size → S k → s < k ∧ k ≠ mb ∧ ov.ownBlock ≠ some k) : DMac w' B s mb n L m gv ov := by
  have hS : ¬ S s := fun e => Nat.lt_irrefl _ (hs s h.core.s0 e).1
  have hM : ¬ S mb := fun e => (hs mb h.core.b0 e).2.1 rfl
  refine ⟨h.core.off ho hS hM, h.B1, h.Bs, h.Bm, ?_, ownsRow_block h.own fun k hk => ?_, h.os, h.om, h.o2⟩
  · rcases h.giv with h' | ⟨gb, o, c, h1, h2, h3, h4, h5, h6, h7, h8⟩
    · exact .inl h'
    · refine .inr ⟨gb, o, c, h1, h2, h3, Nat.lt_of_lt_of_le h4 ho.size, h5, h6, h7, fun i hi => ?_⟩
      rw [ho.cell (p := ⟨gb, o + i, none⟩) h4 (fun e => by have := (hs gb h4 e).1; omega)]
      exact h8 i hi
  · obtain ⟨_, b⟩ := h.ob hk
    exact ho.block k b (fun e => (hs k b e).2.2 hk)

theorem dran_fin {w wr : World} {B s mb n n' L : Nat} {m m1 : MS} {gv ov gv1 ov1 : Value} (hM : DMac w B s mb n L m gv ov) (hM1 : DMac wr B s mb n' L m1 gv1 ov1) (hO : Off (Ws s mb ov) (z3W w) wr) (hK : ∀ k, ov1.ownBlock = some k → ov.ownBlock = some k ∨ (z3W w).heap.size ≤ k) (a b c : Value) (o : Obj) :
    DMac ((((wr.setCell ⟨w.heap.size, 0, none⟩ a).setCell ⟨w.heap.size, 1, none⟩ b).setCell ⟨w.heap.size, 2, none⟩ c).alloc o) B s mb n' L m1 gv1 ov1 ∧ Off (Ws s mb ov) w ((((wr.setCell ⟨w.heap.size, 0, none⟩ a).setCell ⟨w.heap.size, 1, none⟩ b).setCell ⟨w.heap.size, 2, none⟩ c).alloc o) ∧ ∀ k, ov1.ownBlock = some k → ov.ownBlock = some k ∨ w.heap.size ≤ k := by
  have hz := hO.size
  simp at hz
  have hs := hM.core.s0
  have hb := hM.core.b0
  have o5 : Off (· = w.heap.size) wr (((wr.setCell ⟨w.heap.size, 0, none⟩ a).setCell ⟨w.heap.size, 1, none⟩ b).setCell ⟨w.heap.size, 2, none⟩ c) := ((off_s _ _).trans (off_s _ _)).trans (off_s _ _)
  have m5 := hM1.high o5 (fun k _ e => by
    subst e
    refine ⟨hs, by omega, fun e => ?_⟩
    rcases hK _ e with h | h
    · have := (hM.ob h).2; omega
    · simp at h; omega)
  refine ⟨m5.grown ((Below.refl _ _).alloc (Nat.le_refl _) _), ?_, fun k e => ?_⟩
  · have q1 : Off (Ws s mb ov) w wr := ((Off.refl _ _).alloc _).trans' hO (fun _ _ e => e)
    exact (q1.trans' o5 (fun i hi e => by omega)).alloc _
  · rcases hK k e with h | h
    · exact .inl h
    · right; simp at h; omega

set_option maxRecDepth 100000 in
set_option maxHeartbeats 2000000 in
theorem docrun_any (w : World) (B s mb n L F : Nat) (m : MS) (gv ov : Value) (h : DMac w B s mb n L m gv ov) (hL : L % 8 = 0) (hr : Wel L m) (hF : n + F < 100000) :
    Calls Tryd.prog 18 #[.pointer (some ⟨s, 0, none⟩), .int .i64 (F : Int)] w fun e w' => ∃ gv' ov', e = .returned (.agg #[.int .i64 (wayV (runV L F m)), .int .i64 (runV L F m).code, ov']) ∧ DMac w' B s mb (n + F) L (runV L F m) gv' ov' ∧ Off (Ws s mb ov) w w' ∧ ∀ k, ov'.ownBlock = some k → ov.ownBlock = some k ∨ w.heap.size ≤ k := by
  have HM : Hid (DMac w B s mb n L m gv ov) := h
  have HR : Hid (∀ k, Wel L (runV L k m)) := fun k => hr.run k
  have hs := h.core.s0
  clear h hr
  go_enter Tryd.func18, Tryd.ntmps18
  go_wp2_with fail
  go_loopw [1] (fun fv wr => ∃ f : Nat, f ≤ F ∧ fv = .int .i64 f ∧ Hid (DPost (z3W w) B s mb (n + (F - f)) L (runV L (F - f) m) ov wr)) (fun fv _ => (intOf fv).toNat)
  case atStart =>
    refine ⟨F, Nat.le_refl _, rfl, ?_⟩
    have hb : Below w.heap.size w (z3W w) := (Below.refl _ _).alloc (Nat.le_refl _) _
    rw [Nat.sub_self]
    exact DPost.of (HM.out.grown hb) (Off.refl _ _)
  case round =>
    obtain ⟨f, hf, rfl, hp⟩ := hrel
    obtain ⟨gv1, ov1, hm, ho, hk⟩ := hp.out
    have HM1 : Hid (DMac wr B s mb (n + (F - f)) L (runV L (F - f) m) gv1 ov1) := hm
    have HO1 : Hid (Off (Ws s mb ov) (z3W w) wr) := ho
    have HK1 : Hid (∀ k, ov1.ownBlock = some k → ov.ownBlock = some k ∨ (z3W w).heap.size ≤ k) := hk
    have c36 := hm.core.way
    clear hm ho hk hp
    by_cases hgo : 0 < f ∧ (runV L (F - f) m).way = 0
    · obtain ⟨hf0, hw0⟩ := hgo
      rw [hw0] at c36
      have HX : Hid (stepV L (runV L (F - f) m) = runV L (F - (f - 1)) m) := by show _ = _; rw [← runV_succ]; congr 1; omega
      have HL : Hid (L % 8 = 0) := hL
      have HN : Hid (n + (F - f) < 100000) := by show _ < _; omega
      clear hw0
      go_wp2_with (go_at_call 10; refine (docstep_any _ B s mb _ L _ gv1 ov1 HM1.out HL.out (HR.out _) HN.out).mono ?_; rintro e w2 ⟨rfl, hp2⟩)
      refine ⟨⟨f - 1, by omega, by go_num, ?_⟩, by simp [intOf]; omega⟩
      rw [← HX.out]
      exact (DPost.trans HO1.out HK1.out hp2).more (by omega)
    · have hE : runV L (F - f) m = runV L F m := by
        by_cases h0 : f = 0
        · subst h0; rfl
        · have hw : (runV L (F - f) m).way ≠ 0 := fun e => hgo ⟨by omega, e⟩
          have := runV_add L (F - f) f m
          rw [show F - f + f = F by omega, runV_ended hw] at this
          exact this.symm
      rw [hE] at HM1 c36 hgo
      clear hE
      obtain ⟨q1, c1, hov⟩ := HM1.out.ovform
      obtain ⟨W, hW⟩ : ∃ W, (runV L F m).way = W := ⟨_, rfl⟩
      obtain ⟨C, hC⟩ : ∃ C, (runV L F m).code = C := ⟨_, rfl⟩
      obtain ⟨N, hN⟩ : ∃ N, (runV L F m).out.length = N := ⟨_, rfl⟩
      have c37 := HM1.out.core.cod
      have c38 := HM1.out.core.out
      rw [hN] at hov
      rw [hov] at c38
      rw [hC] at c37
      rw [hW] at c36 hgo
      have HW : Hid ((runV L F m).way = W) := hW
      have HC : Hid ((runV L F m).code = C) := hC
      have HV : Hid (ov1 = .slice q1 N c1) := hov
      clear hW hC hN hov
      have hz := HO1.out.size
      simp at hz
      have R0 : wr.heap[w.heap.size]? = some (.cells #[.int .i64 0, .int .i64 0, .slice none 0 0] 44) := by
        rw [HO1.out.block _ (by simp) ?_]
        · exact heap_alloc_last w _
        · have := HM.out.core.b0
          rintro (e | e | e)
          · omega
          · omega
          · have := (HM.out.ob e).2; omega
      have z0 : wr.cell? ⟨w.heap.size, 0, none⟩ = some (.int .i64 0) := by rw [cell_of_row _ _ _ _ _ _ R0]; rfl
      have z1 : wr.cell? ⟨w.heap.size, 1, none⟩ = some (.int .i64 0) := by rw [cell_of_row _ _ _ _ _ _ R0]; rfl
      have z2 : wr.cell? ⟨w.heap.size, 2, none⟩ = some (.slice none 0 0) := by rw [cell_of_row _ _ _ _ _ _ R0]; rfl
      have zf : ∀ i, wr.frozen? ⟨w.heap.size, i, none⟩ = false := fun i => frozen_row R0 i
      have HR0 : Hid (wr.heap[w.heap.size]? = some (.cells #[.int .i64 0, .int .i64 0, .slice none 0 0] 44)) := R0
      clear R0
      have l4 : w.heap.size < wr.heap.size := by omega
      have n4 : ¬ w.heap.size = wr.heap.size := by omega
      clear hz
      have h3 : (f = 0 ∧ W = 0) ∨ (f = 0 ∧ W ≠ 0) ∨ (0 < f ∧ W ≠ 0) := by omega
      clear hgo
      rcases h3 with ⟨rfl, rfl⟩ | ⟨rfl, hw⟩ | ⟨hf0, hw⟩
      · go_wp2_with fail
        exact bodyPost_ret (res18 _ _ w.heap.size (.int .i64 6) (.int .i64 C) (.slice q1 N c1) rfl (row_fin _ _ _ _ l4 HR0.out)) rfl ⟨gv1, ov1, by rw [wayV_0 HW.out, HC.out, HV.out], dran_fin HM.out (HM1.out.more (by omega)) HO1.out HK1.out _ _ _ _⟩
      · go_wp2_with fail
        exact bodyPost_ret (res18 _ _ w.heap.size (.int .i64 W) (.int .i64 C) (.slice q1 N c1) rfl (row_fin _ _ _ _ l4 HR0.out)) rfl ⟨gv1, ov1, by rw [wayV_1 HW.out hw, HC.out, HV.out], dran_fin HM.out (HM1.out.more (by omega)) HO1.out HK1.out _ _ _ _⟩
      · go_wp2_with fail
        exact bodyPost_ret (res18 _ _ w.heap.size (.int .i64 W) (.int .i64 C) (.slice q1 N c1) rfl (row_fin _ _ _ _ l4 HR0.out)) rfl ⟨gv1, ov1, by rw [wayV_1 HW.out hw, HC.out, HV.out], dran_fin HM.out (HM1.out.more (by omega)) HO1.out HK1.out _ _ _ _⟩
end Go.Proofs.YtaodcpdkobhmfaaDoor

namespace Go.Proofs.YtaodcpdkobhmfaaDoor
open Go Go.RowKit Go.Maps

set_option maxRecDepth 100000 in
set_option maxHeartbeats 2000000 in
theorem newdoc_core0 (w : World) (q : Option Addr) (cw : Nat) (L : Nat) (iv : Value) (G : List Int) (hL0 : 8 ≤ L) (hL1 : L ≤ 65536) (hL2 : (L : Int) % 8 = 0) (hG : GivIn w iv G) (hw1 : 1 < w.heap.size) :
    Calls Tryd.prog 6 #[.slice q 0 cw, .int .i64 (L : Int), iv] w fun e w' => ∃ s, e = .returned (.tuple #[.pointer (some ⟨s, 0, none⟩), .int .i64 0]) ∧ ∃ mb, DMac w' w.heap.size s mb 0 L (newV L [] G) iv (.slice none 0 0) ∧ Below w.heap.size w w' := by
  obtain ⟨q', c', hiv⟩ := hG.form
  have hmm := @run_makeMap Tryd.prog
  have HMK : Hid (∀ X, X = (w.alloc (.map #[] 0)).alloc (.cells (newDL w.heap.size L iv).toArray 59) → DMac X w.heap.size (w.heap.size + 1) w.heap.size 0 L (ms0 G) iv (.slice none 0 0) ∧ Below w.heap.size w X) := fun X hX => by
    subst hX
    have hb : Below w.heap.size w ((w.alloc (.map #[] 0)).alloc (.cells (newDL w.heap.size L iv).toArray 59)) := ((Below.refl _ _).alloc (Nat.le_refl _) _).alloc (by simp) _
    refine ⟨dmac_new (heap_alloc2_new _ _ _) ((World.ownsMap_made _ _ _ _).alloc _) (by simp; omega) (by omega) hL1 hw1 (by omega) (Nat.le_refl _) ?_, hb⟩
    rcases hG with h | ⟨gb, o, c, h1, h2, h3, h4, h5⟩
    · exact .inl h
    · refine .inr ⟨gb, o, c, h1, h2, h3, Nat.lt_of_lt_of_le h4 hb.size, by omega, by omega, by simp [Value.ownBlock], fun i hi => ?_⟩
      rw [hb.cell (p := ⟨gb, o + i, none⟩) h4]; exact h5 i hi
  rw [hiv] at HMK
  rw [hiv]
  clear hG hiv
  generalize G.length = gl at *
  go_enter Tryd.func6, Tryd.ntmps6
  go_wp2_with fail
  generalize hWW : World.alloc (World.alloc w _) _ = W
  obtain ⟨hm, hbw⟩ := HMK.out W (by rw [← hWW]; rfl)
  clear HMK hWW
  have HM0 : Hid (DMac W w.heap.size (w.heap.size + 1) w.heap.size 0 L (ms0 G) (.slice q' gl c') (.slice none 0 0)) := hm
  have HBW : Hid (Below w.heap.size w W) := hbw
  clear hm hbw
  go_loopw [35] (fun i wr => ∃ j : Nat, j ≤ 0 ∧ i = .int .i64 j ∧ Hid (DMac wr w.heap.size (w.heap.size + 1) w.heap.size j L { ms0 G with M := layW [] j } (.slice q' gl c') (.slice none 0 0) ∧ Off (· = w.heap.size) W wr)) (fun i _ => 0 - (intOf i).toNat)
  case atStart => exact ⟨0, Nat.zero_le _, rfl, HM0.out, Off.refl _ _⟩
  case round =>
    obtain ⟨j, hj, rfl, hr⟩ := hrel
    obtain rfl : j = 0 := by omega
    have c2 := hr.out.1.core.reg 2 (by omega)
    have f2 := hr.out.1.core.fs 2
    have c33 := hr.out.1.core.siz
    go_wp2_with fail
    go_region
    all_goals
      go_wp2
      go_ret2
      refine ⟨w.heap.size + 1, rfl, w.heap.size, (hr.out.1.drew).setReg 2 (by omega) (L : Int), ?_⟩
      have q1 : Below w.heap.size W wr := hr.out.2.below (by have := HBW.out.size; omega) (fun i hi e => by omega)
      exact ((HBW.out.trans q1).drew).setCell (p := ⟨w.heap.size + 1, 2, none⟩) (by show w.heap.size ≤ w.heap.size + 1; omega) _

theorem newdoc_any (w : World) (wv : Value) (ws : List Int) (L : Nat) (iv : Value) (G : List Int) (hL0 : 8 ≤ L) (hL1 : L ≤ 65536) (hL2 : (L : Int) % 8 = 0) (hk : 4 * ws.length ≤ L) (hW : WV w wv ws) (hG : GivIn w iv G) (hw1 : 1 < w.heap.size) (hl : ws.length ≤ 60) :
    Calls Tryd.prog 6 #[wv, .int .i64 (L : Int), iv] w fun e w' => ∃ s, e = .returned (.tuple #[.pointer (some ⟨s, 0, none⟩), .int .i64 0]) ∧ ∃ mb, DMac w' w.heap.size s mb 60 L (newV L ws G) iv (.slice none 0 0) ∧ Below w.heap.size w w' := by
  obtain ⟨q, c, rfl, h2⟩ := hW
  by_cases hn : ws = []
  · subst hn
    exact (newdoc_core0 w q c L iv G hL0 hL1 hL2 hG hw1).mono fun e w' ⟨s, h1, mb, h2, h3⟩ => ⟨s, h1, mb, h2.more (by omega), h3⟩
  · obtain ⟨g, o, rfl, h4⟩ := h2 hn
    exact (newdoc_core w g o c ws L iv G hL0 hL1 hL2 hk h4 hG hw1 hl).mono fun e w' ⟨s, h1, mb, h2, h3⟩ => ⟨s, h1, mb, h2.more hl, h3⟩
end Go.Proofs.YtaodcpdkobhmfaaDoor
