/- Package machine's New of no words, walked; New of whatever words. -/
import Derived.Test.YtaodcpdkobhmfaaDoorI4
namespace Go.Proofs.YtaodcpdkobhmfaaDoor
open Go Go.RowKit

set_option maxRecDepth 100000 in
set_option maxHeartbeats 2000000 in
theorem new_core0 (w : World) (q : Option Addr) (cw : Nat) (L : Nat) (iv : Value) (G : List Int) (hL0 : 8 ≤ L) (hL1 : L ≤ 65536) (hL2 : (L : Int) % 8 = 0) (hG : Src w iv G) (hGl : G.length ≤ 1000) (hw1 : 1 < w.heap.size) :
    Calls Tryd.prog 7 #[.slice q 0 cw, .int .i64 (L : Int), iv] w fun e w' => ∃ s, e = .returned (.tuple #[.pointer (some ⟨s, 0, none⟩), .nilIface]) ∧ ∃ mb gv, Mac w' w.heap.size s mb L (newV L [] G) gv (.slice none 0 0) ∧ Below w.heap.size w w' ∧ ∀ k, gv.ownBlock = some k → w.heap.size ≤ k ∧ k < s := by
  have HCL : Hid (∀ w', Below w.heap.size w w' → Calls Tryd.prog 25 #[iv] w' fun e w'' => ∃ v', e = .returned v' ∧ w''.ownsRow w'.heap.size 2 1 v' G.length (outL G) ∧ Below w'.heap.size w' w'') := fun w' hb => clone_any w' iv G (hG.below hb) hGl
  have hmk := make_mem L hL1
  have HB0 : Hid (Below w.heap.size w w.drew) := (Below.refl _ _).drew
  have HB1 : Hid (Below w.heap.size w (w.alloc (.cells (mem0 L) 5)).drew) := ((Below.refl _ _).alloc (Nat.le_refl _) _).drew
  clear hG
  go_enter Tryd.func7, Tryd.ntmps7
  go_wp2_with fail
  go_region_with (go_at_call 25; refine (HCL.out _ (by first | exact HB1.out | exact HB0.out)).mono ?_; rintro e w3 ⟨gv, rfl, hown, hb⟩; obtain ⟨q', c', rfl⟩ := own_form hown; have HOW : Hid (World.ownsRow _ _ _ _ _ _ _) := hown; have HB3 : Hid (Below _ _ _) := hb; clear hown hb)
  · have HMK : Hid (∀ X, X = w3.alloc (.cells (newL w.heap.size L (.slice q' G.length c')).toArray 64) → Mac X w.heap.size w3.heap.size w.heap.size L (ms0 G) (.slice q' G.length c') (.slice none 0 0) ∧ Below w.heap.size w X ∧ (∀ k, (Value.slice q' G.length c').ownBlock = some k → w.heap.size ≤ k ∧ k < w3.heap.size)) := fun X hX => by
      subst hX
      have hz := HB3.out.size
      simp at hz
      have hk : ∀ k, (Value.slice q' G.length c').ownBlock = some k → w.heap.size + 1 ≤ k ∧ k < w3.heap.size := fun k e => by have := HOW.out.lt k e; simp at this; exact this
      refine ⟨mac_new (heap_alloc_last w3 _) ?_ (by omega) hL1 hw1 (by omega) (Nat.le_refl _) (World.ownsRow.alloc (own_mono HOW.out (by simp)) _) (fun k e => by have := hk k e; omega), ?_, fun k e => by have := hk k e; omega⟩
      · rw [Below.heap_alloc _ _ _ (by omega), HB3.out.block _ (by simp)]; exact heap_alloc_last w _
      · exact (HB1.out.trans (HB3.out.mono (by simp))).alloc (by omega) _
    have hs0 : w.heap.size < w3.heap.size := by have := HB3.out.size; simp at this; omega
    go_wp2_with fail
    generalize hWW : World.alloc w3 _ = W
    obtain ⟨hm, hbw, hgk⟩ := HMK.out W (by rw [← hWW]; rfl)
    clear HMK HB3 HOW hWW
    generalize w3.heap.size = s at *
    have HM0 : Hid (Mac W w.heap.size s w.heap.size L (ms0 G) (.slice q' G.length c') (.slice none 0 0)) := hm
    have HBW : Hid (Below w.heap.size w W) := hbw
    have HGK : Hid (∀ k, (Value.slice q' G.length c').ownBlock = some k → w.heap.size ≤ k ∧ k < s) := hgk
    clear hm hbw hgk
    go_loopw [37] (fun i wr => ∃ j : Nat, j ≤ 0 ∧ i = .int .i64 j ∧ Hid (Mac wr w.heap.size s w.heap.size L { ms0 G with M := layW [] j } (.slice q' G.length c') (.slice none 0 0) ∧ Off (· = w.heap.size) W wr)) (fun i _ => 0 - (intOf i).toNat)
    case atStart => exact ⟨0, Nat.zero_le _, rfl, HM0.out, Off.refl _ _⟩
    case round =>
      obtain ⟨j, hj, rfl, hr⟩ := hrel
      obtain rfl : j = 0 := by omega
      have c2 := hr.out.1.core.reg 2 (by omega)
      have f2 := hr.out.1.core.fs 2
      go_wp2_with fail
      go_ret2
      refine ⟨s, rfl, w.heap.size, _, hr.out.1.setReg 2 (by omega) (L : Int), ?_, HGK.out⟩
      have q1 : Below w.heap.size W wr := hr.out.2.below (by have := HBW.out.size; omega) (fun i hi e => by have := HM0.out.Bm; omega)
      exact (HBW.out.trans q1).setCell (p := ⟨s, 2, none⟩) (by have := HM0.out.Bs; exact this) _
  · have HMK : Hid (∀ X, X = (w3.alloc (.cells (mem0 L) 5)).alloc (.cells (newL w3.heap.size L (.slice q' G.length c')).toArray 64) → Mac X w.heap.size (w3.heap.size + 1) w3.heap.size L (ms0 G) (.slice q' G.length c') (.slice none 0 0) ∧ Below w.heap.size w X ∧ (∀ k, (Value.slice q' G.length c').ownBlock = some k → w.heap.size ≤ k ∧ k < w3.heap.size + 1)) := fun X hX => by
      subst hX
      have hz : w.heap.size ≤ w3.heap.size := HB3.out.size
      have hk : ∀ k, (Value.slice q' G.length c').ownBlock = some k → w.heap.size ≤ k ∧ k < w3.heap.size := fun k e => HOW.out.lt k e
      refine ⟨mac_new (heap_alloc2_new _ _ _) (heap_alloc2_old _ _ _) (by omega) hL1 hw1 (by omega) (by omega) (World.ownsRow.alloc (World.ownsRow.alloc (own_mono HOW.out (by simp)) _) _) (fun k e => by have := hk k e; omega), ?_, fun k e => by have := hk k e; omega⟩
      exact ((HB0.out.trans (HB3.out.mono (by simp))).alloc (by omega) _).alloc (by simp; omega) _
    have hs0 : w.heap.size ≤ w3.heap.size := HB3.out.size
    go_wp2_with fail
    generalize hWW : World.alloc (World.alloc w3 _) _ = W
    obtain ⟨hm, hbw, hgk⟩ := HMK.out W (by rw [← hWW]; rfl)
    clear HMK HB3 HOW hWW
    generalize w3.heap.size = mb at *
    have HM0 : Hid (Mac W w.heap.size (mb + 1) mb L (ms0 G) (.slice q' G.length c') (.slice none 0 0)) := hm
    have HBW : Hid (Below w.heap.size w W) := hbw
    have HGK : Hid (∀ k, (Value.slice q' G.length c').ownBlock = some k → w.heap.size ≤ k ∧ k < mb + 1) := hgk
    clear hm hbw hgk
    go_loopw [37] (fun i wr => ∃ j : Nat, j ≤ 0 ∧ i = .int .i64 j ∧ Hid (Mac wr w.heap.size (mb + 1) mb L { ms0 G with M := layW [] j } (.slice q' G.length c') (.slice none 0 0) ∧ Off (· = mb) W wr)) (fun i _ => 0 - (intOf i).toNat)
    case atStart => exact ⟨0, Nat.zero_le _, rfl, HM0.out, Off.refl _ _⟩
    case round =>
      obtain ⟨j, hj, rfl, hr⟩ := hrel
      obtain rfl : j = 0 := by omega
      have c2 := hr.out.1.core.reg 2 (by omega)
      have f2 := hr.out.1.core.fs 2
      go_wp2_with fail
      go_ret2
      refine ⟨mb + 1, rfl, mb, _, hr.out.1.setReg 2 (by omega) (L : Int), ?_, HGK.out⟩
      have q1 : Below w.heap.size W wr := hr.out.2.below (by have := HBW.out.size; omega) (fun i hi e => by have := HM0.out.Bm; omega)
      exact (HBW.out.trans q1).setCell (p := ⟨mb + 1, 2, none⟩) (by have := HM0.out.Bs; exact this) _

/-- Words that came in. -/
def WV (w : World) (wv : Value) (ws : List Int) : Prop := ∃ q c, wv = .slice q ws.length c ∧ (ws ≠ [] → ∃ g o, q = some ⟨g, o, none⟩ ∧ SrcW w g o c ws)

theorem WV.below {w w' : World} {wv : Value} {ws : List Int} (h : WV w wv ws) (hb : Below w.heap.size w w') : WV w' wv ws := by
  obtain ⟨q, c, h1, h2⟩ := h
  refine ⟨q, c, h1, fun hn => ?_⟩
  obtain ⟨g, o, h3, h4⟩ := h2 hn
  refine ⟨g, o, h3, h4.le, fun j hj => ?_, h4.rng⟩
  rw [hb.cell (block_lt_of_cell (h4.cell j hj))]; exact h4.cell j hj

theorem new_any (w : World) (wv : Value) (ws : List Int) (L : Nat) (iv : Value) (G : List Int) (hL0 : 8 ≤ L) (hL1 : L ≤ 65536) (hL2 : (L : Int) % 8 = 0) (hk : 4 * ws.length ≤ L) (hW : WV w wv ws) (hG : Src w iv G) (hGl : G.length ≤ 1000) (hw1 : 1 < w.heap.size) :
    Calls Tryd.prog 7 #[wv, .int .i64 (L : Int), iv] w fun e w' => ∃ s, e = .returned (.tuple #[.pointer (some ⟨s, 0, none⟩), .nilIface]) ∧ ∃ mb gv, Mac w' w.heap.size s mb L (newV L ws G) gv (.slice none 0 0) ∧ Below w.heap.size w w' ∧ ∀ k, gv.ownBlock = some k → w.heap.size ≤ k ∧ k < s := by
  obtain ⟨q, c, rfl, h2⟩ := hW
  by_cases hn : ws = []
  · subst hn; exact new_core0 w q c L iv G hL0 hL1 hL2 hG hGl hw1
  · obtain ⟨g, o, rfl, h4⟩ := h2 hn
    exact new_core w g o c ws L iv G hL0 hL1 hL2 hk h4 hG hGl hw1
end Go.Proofs.YtaodcpdkobhmfaaDoor
