/- Package machine's New, walked. -/
import Derived.Test.YtaodcpdkobhmfaaDoorMG
namespace Go.Proofs.YtaodcpdkobhmfaaDoor
open Go Go.RowKit

theorem new_range (w : World) (wv iv : Value) (n : Int) (h : n < 8 ∨ 65536 < n ∨ ¬ n % 8 = 0) :
    Calls Tryd.prog 7 #[wv, .int .i64 n, iv] w fun e w' => e = .returned (.tuple #[.pointer none, errV 2]) ∧ w' = w := by
  by_cases h1 : n < 8
  · go_enter Tryd.func7, Tryd.ntmps7
    go_wp2
    go_ret2
    exact ⟨rfl, rfl⟩
  · by_cases h2 : 65536 < n
    · go_enter Tryd.func7, Tryd.ntmps7
      go_wp2
      go_ret2
      exact ⟨rfl, rfl⟩
    · have h3 : ¬ n % 8 = 0 := by omega
      go_enter Tryd.func7, Tryd.ntmps7
      go_wp2
      go_ret2
      exact ⟨rfl, rfl⟩

theorem Src.below {w w' : World} {v : Value} {l : List Int} (h : Src w v l) (hb : Below w.heap.size w w') : Src w' v l := by
  rcases h with h | ⟨ad, c, h1, h2⟩
  · exact .inl h
  · refine .inr ⟨ad, c, h1, fun j u hu => ?_⟩
    have h0 := h2 j u hu
    rw [hb.cell (block_lt_of_cell h0)]; exact h0

theorem info5 : (Tryd.prog.info? 5).map (fun i => (i.zero, i.size, i.bytes)) = some (some (.int .u8 0), 1, 1) := by kernel_rfl

/-- So many bytes, all 0. -/
def mem0 (L : Nat) : Array Value := madeCells (Value.int .u8 0).cells (L * 1)

theorem mem0_get (L i : Nat) (h : i < L) : (mem0 L)[i]? = some (.int .u8 0) := by
  have h1 : (mem0 L).toList = List.replicate L (.int .u8 0) := by
    unfold mem0
    rw [Nat.mul_one]
    exact toList_madeCells_one _ _
  rw [← Array.getElem?_toList, h1]
  simp [h]

theorem make_mem (L : Nat) (hL : L ≤ 65536) (w : World) : (Instr.makeSlice 61 (.int .i64 (L : Int)) (.int .i64 (L : Int))).run Tryd.prog w = .ok (.slice (some ⟨w.heap.size, 0, none⟩) L L) (w.alloc (.cells (mem0 L) 5)) := by
  obtain ⟨i0, hi0, hz0, hz1, hz2⟩ := info_parts info5
  have h := run_make (P := Tryd.prog) w 61 5 i0 (.int .u8 0) Tryd.underlying61 hi0 hz0 .i64 .i64 (L : Int) (L : Int) (by omega) (by omega) (by rw [hz2]; omega) (by omega)
  rw [hz1] at h
  simpa [mem0] using h

def newL (mb L : Nat) (gv : Value) : List Value := List.replicate 32 (.int .i64 0) ++ [.slice (some ⟨mb, 0, none⟩) L L, .int .i64 0, gv, .int .i64 0, .int .i64 0, .slice none 0 0]

/-- A machine as it is made, before anything is laid. -/
def ms0 (G : List Int) : MS := { R := fun _ => 0, M := fun _ => 0, pc := 0, G := G, way := 0, code := 0, out := [] }

theorem mac_new {W : World} {B s mb L : Nat} {gv : Value} {G : List Int} (hs : W.heap[s]? = some (.cells (newL mb L gv).toArray 64)) (hb : W.heap[mb]? = some (.cells (mem0 L) 5)) (ne : s ≠ mb) (hL : L ≤ 65536) (hB1 : 1 < B) (hBs : B ≤ s) (hBm : B ≤ mb)
    (hown : W.ownsRow B 2 1 gv G.length (outL G)) (hk : ∀ k, gv.ownBlock = some k → k < s ∧ k ≠ mb) : Mac W B s mb L (ms0 G) gv (.slice none 0 0) := by
  have c : ∀ i, W.cell? ⟨s, i, none⟩ = (newL mb L gv)[i]? := fun i => by rw [cell_of_row _ _ _ _ _ _ hs]; simp
  have s0 : s < W.heap.size := by
    rcases Nat.lt_or_ge s W.heap.size with h | h
    · exact h
    · rw [Array.getElem?_eq_none h] at hs; cases hs
  have b0 : mb < W.heap.size := by
    rcases Nat.lt_or_ge mb W.heap.size with h | h
    · exact h
    · rw [Array.getElem?_eq_none h] at hb; cases hb
  refine ⟨?_, hB1, hBs, hBm, ?_, World.ownsRow_nil _ _ _ _, by simp [Value.ownBlock], by simp [Value.ownBlock], by simp [ms0], fun k e => (hown.lt k e).1⟩
  · exact { s0 := s0, b0 := b0, ne := ne, L1 := hL, reg := fun i hi => by
              rw [c]; unfold newL; rw [List.getElem?_append_left (by simpa using hi), List.getElem?_replicate, if_pos hi]; rfl
            mem := by rw [c]; rfl, pc := by rw [c]; rfl, giv := by rw [c]; rfl, way := by rw [c]; rfl, cod := by rw [c]; rfl, out := by rw [c]; rfl,
            byt := fun i hi => by rw [cell_of_row _ _ _ _ _ _ hb]; exact mem0_get L i hi
            fs := fun i => frozen_row hs i, fb := fun i => frozen_row hb i, M0 := fun i hi => by simp [ms0] }
  · show Giv _ _ _ _ _ G
    rcases hown.2 with ⟨h1, h2⟩ | ⟨g, cap, cur, hv, hg, hh, h3, h4, h5, h6⟩
    · exact .inl ⟨List.length_eq_zero_iff.1 h2, none, 0, h1⟩
    · refine .inr ⟨g, 0, cap, hv, h3, by simpa [maxLen] using h4, ?_, (hk g (by rw [hv]; rfl)).1, (hk g (by rw [hv]; rfl)).2, by simp [Value.ownBlock], fun i hi => ?_⟩
      · exact (hown.lt g (by rw [hv]; rfl)).2
      · subst hv
        have := hown.cells (g := g) rfl i (.int .i64 G[i]) (by simp [outL, hi])
        rw [Nat.zero_add]
        have e : (⟨g, 0, none⟩ : Addr).add i = ⟨g, i, none⟩ := by unfold Addr.add; split <;> simp_all
        rw [e] at this
        exact this

/-- The bytes with the first words laid. -/
def layW (ws : List Int) : Nat → Nat → Int
  | 0 => fun _ => 0
  | j + 1 => layTo (layW ws j) (4 * j) (ws.getD j 0) 4

/-- A new machine. -/
def newV (L : Nat) (ws G : List Int) : MS := { R := upd (fun _ => 0) 2 (L : Int), M := layW ws ws.length, pc := 0, G := G, way := 0, code := 0, out := [] }

/-- Words in memory. -/
structure SrcW (w : World) (g o c : Nat) (ws : List Int) : Prop where
  le : ws.length ≤ c
  cell : ∀ j, j < ws.length → w.cell? ⟨g, o + j, none⟩ = some (.int .u32 (ws.getD j 0))
  rng : ∀ j, j < ws.length → 0 ≤ ws.getD j 0 ∧ ws.getD j 0 < 4294967296

set_option maxRecDepth 100000 in
set_option maxHeartbeats 2000000 in
theorem new_core (w : World) (g o cw : Nat) (ws : List Int) (L : Nat) (iv : Value) (G : List Int) (hL0 : 8 ≤ L) (hL1 : L ≤ 65536) (hL2 : (L : Int) % 8 = 0) (hk : 4 * ws.length ≤ L) (hW : SrcW w g o cw ws) (hG : Src w iv G) (hGl : G.length ≤ 1000) (hw1 : 1 < w.heap.size) :
    Calls Tryd.prog 7 #[.slice (some ⟨g, o, none⟩) ws.length cw, .int .i64 (L : Int), iv] w fun e w' => ∃ s, e = .returned (.tuple #[.pointer (some ⟨s, 0, none⟩), .nilIface]) ∧ ∃ mb gv, Mac w' w.heap.size s mb L (newV L ws G) gv (.slice none 0 0) ∧ Below w.heap.size w w' ∧ ∀ k, gv.ownBlock = some k → w.heap.size ≤ k ∧ k < s := by
  have HCL : Hid (∀ w', Below w.heap.size w w' → Calls Tryd.prog 25 #[iv] w' fun e w'' => ∃ v', e = .returned v' ∧ w''.ownsRow w'.heap.size 2 1 v' G.length (outL G) ∧ Below w'.heap.size w' w'') := fun w' hb => clone_any w' iv G (hG.below hb) hGl
  have hmk := make_mem L hL1
  have HB0 : Hid (Below w.heap.size w w.drew) := (Below.refl _ _).drew
  have HB1 : Hid (Below w.heap.size w (w.alloc (.cells (mem0 L) 5)).drew) := ((Below.refl _ _).alloc (Nat.le_refl _) _).drew
  have HW : Hid (SrcW w g o cw ws) := hW
  clear hG hW
  go_enter Tryd.func7, Tryd.ntmps7
  go_wp2_with fail
  go_region_with (go_at_call 25; refine (HCL.out _ (by first | exact HB1.out | exact HB0.out)).mono ?_; rintro e w3 ⟨gv, rfl, hown, hb⟩; obtain ⟨q', c', rfl⟩ := own_form hown; have HOW : Hid (World.ownsRow _ _ _ _ _ _ _) := hown; have HB3 : Hid (Below _ _ _) := hb; clear hown hb)
  · have HMK : Hid (∀ X, X = w3.alloc (.cells (newL w.heap.size L (.slice q' G.length c')).toArray 64) → Mac X w.heap.size w3.heap.size w.heap.size L (ms0 G) (.slice q' G.length c') (.slice none 0 0) ∧ Below w.heap.size w X ∧ (∀ k, (Value.slice q' G.length c').ownBlock = some k → w.heap.size ≤ k ∧ k < w3.heap.size)) := fun X hX => by
      subst hX
      have hz := HB3.out.size
      simp at hz
      have hk : ∀ k, (Value.slice q' G.length c').ownBlock = some k → w.heap.size + 1 ≤ k ∧ k < w3.heap.size := fun k e => by have := HOW.out.lt k e; simp at this; exact this
      refine ⟨mac_new (heap_alloc_last w3 _) ?_ (by omega) hL1 hw1 (by omega) (Nat.le_refl _) (World.ownsRow.alloc (own_mono HOW.out (by simp)) _) (fun k e => by have := hk k e; omega), ?_, fun k e => by have := hk k e; omega⟩
      · rw [Below.heap_alloc _ _ _ (by omega), HB3.out.block _ (by simp)]; exact heap_alloc_last w _
      · exact (HB1.out.trans (HB3.out.mono (by simp))).alloc (by omega) _
    have hs0 : w.heap.size < w3.heap.size := by have := HB3.out.size; simp at this; omega
    go_wp2_with fail
    generalize hWW : World.alloc w3 _ = W
    obtain ⟨hm, hbw, hgk⟩ := HMK.out W (by rw [← hWW]; rfl)
    clear HMK HB3 HOW hWW
    generalize w3.heap.size = s at *
    have HM0 : Hid (Mac W w.heap.size s w.heap.size L (ms0 G) (.slice q' G.length c') (.slice none 0 0)) := hm
    have HBW : Hid (Below w.heap.size w W) := hbw
    have HGK : Hid (∀ k, (Value.slice q' G.length c').ownBlock = some k → w.heap.size ≤ k ∧ k < s) := hgk
    clear hm hbw hgk
    go_loopw [37] (fun i wr => ∃ j : Nat, j ≤ ws.length ∧ i = .int .i64 j ∧ Hid (Mac wr w.heap.size s w.heap.size L { ms0 G with M := layW ws j } (.slice q' G.length c') (.slice none 0 0) ∧ Off (· = w.heap.size) W wr)) (fun i _ => ws.length - (intOf i).toNat)
    case atStart => exact ⟨0, Nat.zero_le _, rfl, HM0.out, Off.refl _ _⟩
    case round =>
      obtain ⟨j, hj, rfl, hr⟩ := hrel
      by_cases hlt : j < ws.length
      · have hgl : g < w.heap.size := block_lt_of_cell (HW.out.cell j hlt)
        have hcw : wr.cell? ⟨g, o + j, none⟩ = some (.int .u32 (ws.getD j 0)) := by
          rw [hr.out.2.cell (p := ⟨g, o + j, none⟩) (by have := HBW.out.size; show g < W.heap.size; omega) (by have := HM0.out.Bm; show ¬ g = w.heap.size; omega), HBW.out.cell (p := ⟨g, o + j, none⟩) hgl]
          exact HW.out.cell j hlt
        obtain ⟨x0, x1⟩ := HW.out.rng j hlt
        have HY : Hid (layW ws (j + 1) = layTo (layW ws j) (4 * j) (ws.getD j 0) 4) := rfl
        generalize ws.getD j 0 = x at *
        have HL : Hid (Calls Tryd.prog 26 #[.pointer (some ⟨s, 0, none⟩), .int .i64 ((j : Int) * 4), .int .i64 4, .int .u64 x] wr fun e w' => e = .returned (.tuple #[]) ∧ Bts w' w.heap.size L (layTo (layW ws j) (4 * j) x 4) ∧ Off (· = w.heap.size) wr w') := by
          have := lay_any wr (s) (w.heap.size) L (4 * j) 4 x (layW ws j) (.inl rfl) hL1 (by omega) hr.out.1.core.mem hr.out.1.core.ne hr.out.1.core.s0 hr.out.1.core.bts x0 (by omega)
          rw [show (((4 * j : Nat)) : Int) = (j : Int) * 4 by omega] at this
          exact this
        have hcl := HW.out.le
        go_wp2_with (go_at_call 26; refine HL.out.mono ?_; rintro e w6 ⟨rfl, hb6, ho6⟩)
        refine ⟨⟨j + 1, by omega, by go_num, ?_⟩, by simp [intOf]; omega⟩
        rw [HY.out]
        exact ⟨hr.out.1.inM ho6 (hr.out.1.core.bytes ho6 hb6 (lay_range hr.out.1.core.M0)) rfl rfl, hr.out.2.trans ho6⟩
      · obtain rfl : j = ws.length := by omega
        have c2 := hr.out.1.core.reg 2 (by omega)
        have f2 := hr.out.1.core.fs 2
        go_wp2_with fail
        go_ret2
        refine ⟨s, rfl, w.heap.size, _, hr.out.1.setReg 2 (by omega) (L : Int), ?_, HGK.out⟩
        have q1 : Below w.heap.size W wr := hr.out.2.below (by have := HBW.out.size; omega) (fun i hi e => by have := HM0.out.Bm; omega)
        exact (HBW.out.trans q1).setCell (p := ⟨s, 2, none⟩) (by have := HM0.out.Bs; exact this) _
  · have HMK : Hid (∀ X, X = (w3.alloc (.cells (mem0 L) 5)).alloc (.cells (newL w3.heap.size L (.slice q' G.length c')).toArray 64) → Mac X w.heap.size (w3.heap.size + 1) w3.heap.size L (ms0 G) (.slice q' G.length c') (.slice none 0 0) ∧ Below w.heap.size w X ∧ (∀ k, (Value.slice q' G.length c').ownBlock = some k → w.heap.size ≤ k ∧ k < w3.heap.size + 1)) := fun X hX => by
      subst hX
      have hz : w.heap.size ≤ w3.heap.size := HB3.out.size
      have hk : ∀ k, (Value.slice q' G.length c').ownBlock = some k → w.heap.size ≤ k ∧ k < w3.heap.size := fun k e => HOW.out.lt k e
      refine ⟨mac_new (heap_alloc2_new _ _ _) (heap_alloc2_old _ _ _) (by omega) hL1 hw1 (by omega) (by omega) (World.ownsRow.alloc (World.ownsRow.alloc (own_mono HOW.out (by simp)) _) _) (fun k e => by have := hk k e; omega), ?_, fun k e => by have := hk k e; omega⟩
      exact ((HB0.out.trans (HB3.out.mono (by simp))).alloc (by omega) _).alloc (by simp; omega) _
    have hs0 : w.heap.size ≤ w3.heap.size := HB3.out.size
    go_wp2_with fail
    generalize hWW : World.alloc (World.alloc w3 _) _ = W
    obtain ⟨hm, hbw, hgk⟩ := HMK.out W (by rw [← hWW]; rfl)
    clear HMK HB3 HOW hWW
    generalize w3.heap.size = mb at *
    have HM0 : Hid (Mac W w.heap.size (mb + 1) mb L (ms0 G) (.slice q' G.length c') (.slice none 0 0)) := hm
    have HBW : Hid (Below w.heap.size w W) := hbw
    have HGK : Hid (∀ k, (Value.slice q' G.length c').ownBlock = some k → w.heap.size ≤ k ∧ k < mb + 1) := hgk
    clear hm hbw hgk
    go_loopw [37] (fun i wr => ∃ j : Nat, j ≤ ws.length ∧ i = .int .i64 j ∧ Hid (Mac wr w.heap.size (mb + 1) mb L { ms0 G with M := layW ws j } (.slice q' G.length c') (.slice none 0 0) ∧ Off (· = mb) W wr)) (fun i _ => ws.length - (intOf i).toNat)
    case atStart => exact ⟨0, Nat.zero_le _, rfl, HM0.out, Off.refl _ _⟩
    case round =>
      obtain ⟨j, hj, rfl, hr⟩ := hrel
      by_cases hlt : j < ws.length
      · have hgl : g < w.heap.size := block_lt_of_cell (HW.out.cell j hlt)
        have hcw : wr.cell? ⟨g, o + j, none⟩ = some (.int .u32 (ws.getD j 0)) := by
          rw [hr.out.2.cell (p := ⟨g, o + j, none⟩) (by have := HBW.out.size; show g < W.heap.size; omega) (by have := HM0.out.Bm; show ¬ g = mb; omega), HBW.out.cell (p := ⟨g, o + j, none⟩) hgl]
          exact HW.out.cell j hlt
        obtain ⟨x0, x1⟩ := HW.out.rng j hlt
        have HY : Hid (layW ws (j + 1) = layTo (layW ws j) (4 * j) (ws.getD j 0) 4) := rfl
        generalize ws.getD j 0 = x at *
        have HL : Hid (Calls Tryd.prog 26 #[.pointer (some ⟨mb + 1, 0, none⟩), .int .i64 ((j : Int) * 4), .int .i64 4, .int .u64 x] wr fun e w' => e = .returned (.tuple #[]) ∧ Bts w' mb L (layTo (layW ws j) (4 * j) x 4) ∧ Off (· = mb) wr w') := by
          have := lay_any wr ((mb + 1)) (mb) L (4 * j) 4 x (layW ws j) (.inl rfl) hL1 (by omega) hr.out.1.core.mem hr.out.1.core.ne hr.out.1.core.s0 hr.out.1.core.bts x0 (by omega)
          rw [show (((4 * j : Nat)) : Int) = (j : Int) * 4 by omega] at this
          exact this
        have hcl := HW.out.le
        go_wp2_with (go_at_call 26; refine HL.out.mono ?_; rintro e w6 ⟨rfl, hb6, ho6⟩)
        refine ⟨⟨j + 1, by omega, by go_num, ?_⟩, by simp [intOf]; omega⟩
        rw [HY.out]
        exact ⟨hr.out.1.inM ho6 (hr.out.1.core.bytes ho6 hb6 (lay_range hr.out.1.core.M0)) rfl rfl, hr.out.2.trans ho6⟩
      · obtain rfl : j = ws.length := by omega
        have c2 := hr.out.1.core.reg 2 (by omega)
        have f2 := hr.out.1.core.fs 2
        go_wp2_with fail
        go_ret2
        refine ⟨mb + 1, rfl, mb, _, hr.out.1.setReg 2 (by omega) (L : Int), ?_, HGK.out⟩
        have q1 : Below w.heap.size W wr := hr.out.2.below (by have := HBW.out.size; omega) (fun i hi e => by have := HM0.out.Bm; omega)
        exact (HBW.out.trans q1).setCell (p := ⟨mb + 1, 2, none⟩) (by have := HM0.out.Bs; exact this) _
end Go.Proofs.YtaodcpdkobhmfaaDoor
