/- New where there are too many words; the document's NewMachine where it makes none; plain facts on the words that are laid. The document's NewMachine, walked. -/
import Derived.Test.YtaodcpdkobhmfaaDoorMK
import Derived.Test.YtaodcpdkobhmfaaDoorR1
import Derived.Test.YtaodcpdkobhmfaaDoorMI
import Derived.Deep.RegionHeld3
namespace Go.Proofs.YtaodcpdkobhmfaaDoor
open Go Go.RowKit Go.Maps

theorem new_limit (w : World) (q : Option Addr) (n c L : Nat) (iv : Value) (hL0 : 8 ≤ L) (hL1 : L ≤ 65536) (hL2 : (L : Int) % 8 = 0) (hn : L < 4 * n) (hn2 : n ≤ 60) :
    Calls Tryd.prog 7 #[.slice q n c, .int .i64 (L : Int), iv] w fun e w' => e = .returned (.tuple #[.pointer none, errV 4]) ∧ w' = w := by
  have h1 : ((L : Int) / 4) < (n : Int) := by omega
  go_enter Tryd.func7, Tryd.ntmps7
  go_wp2
  go_ret2
  exact ⟨rfl, rfl⟩

theorem newdoc_range (w : World) (wv iv : Value) (n : Int) (h : n < 8 ∨ 65536 < n ∨ ¬ n % 8 = 0) :
    Calls Tryd.prog 6 #[wv, .int .i64 n, iv] w fun e w' => e = .returned (.tuple #[.pointer none, .int .i64 2]) ∧ w' = w := by
  by_cases h1 : n < 8
  · go_enter Tryd.func6, Tryd.ntmps6
    go_wp2
    go_ret2
    exact ⟨rfl, rfl⟩
  · by_cases h2 : 65536 < n
    · go_enter Tryd.func6, Tryd.ntmps6
      go_wp2
      go_ret2
      exact ⟨rfl, rfl⟩
    · have h3 : ¬ n % 8 = 0 := by omega
      go_enter Tryd.func6, Tryd.ntmps6
      go_wp2
      go_ret2
      exact ⟨rfl, rfl⟩

theorem newdoc_limit (w : World) (q : Option Addr) (n c L : Nat) (iv : Value) (hL0 : 8 ≤ L) (hL1 : L ≤ 65536) (hL2 : (L : Int) % 8 = 0) (hn : L < 4 * n) (hn2 : n ≤ 60) :
    Calls Tryd.prog 6 #[.slice q n c, .int .i64 (L : Int), iv] w fun e w' => e = .returned (.tuple #[.pointer none, .int .i64 4]) ∧ w' = w := by
  go_enter Tryd.func6, Tryd.ntmps6
  go_wp2
  go_ret2
  exact ⟨rfl, rfl⟩

/-- Two words, put together. -/
theorem or_two (c x : Int) (h0 : 0 ≤ c) (h1 : c < 4294967296) (h2 : 0 ≤ x) (h3 : x < 4294967296) : bits .or .i64 c (wrap64 (x * 4294967296)) = wrap64 (c + x * 4294967296) := by
  obtain ⟨c, rfl⟩ := Int.eq_ofNat_of_zero_le h0
  obtain ⟨x, rfl⟩ := Int.eq_ofNat_of_zero_le h2
  have e : bits .or .i64 (c : Int) (wrap64 ((x : Int) * 4294967296)) = IntKind.i64.wrap ((BitVec.ofInt 64 (c : Int) ||| BitVec.ofInt 64 (wrap64 ((x : Int) * 4294967296))).toNat : Int) := rfl
  rw [e, BitVec.toNat_or]
  have t1 : (BitVec.ofInt 64 (c : Int)).toNat = c := by rw [BitVec.toNat_ofInt]; simp; omega
  have t2 : (BitVec.ofInt 64 (wrap64 ((x : Int) * 4294967296))).toNat = 2 ^ 32 * x := by rw [BitVec.toNat_ofInt]; simp [wrap64]; omega
  rw [t1, t2]
  have h4 : c ||| 2 ^ 32 * x = c + 2 ^ 32 * x := by rw [Nat.or_comm, ← Nat.two_pow_add_eq_or_of_lt (show c < 2 ^ 32 by omega), Nat.add_comm]
  rw [h4]
  simp [IntKind.wrap, IntKind.bits, IntKind.signed, wrap64]
  omega

theorem or_zero (x : Int) (h2 : 0 ≤ x) (h3 : x < 4294967296) : bits .or .i64 0 x = x := by
  obtain ⟨x, rfl⟩ := Int.eq_ofNat_of_zero_le h2
  have e : bits .or .i64 0 (x : Int) = IntKind.i64.wrap ((BitVec.ofInt 64 0 ||| BitVec.ofInt 64 (x : Int)).toNat : Int) := rfl
  rw [e, BitVec.toNat_or]
  have t2 : (BitVec.ofInt 64 (x : Int)).toNat = x := by rw [BitVec.toNat_ofInt]; simp; omega
  rw [t2]
  simp [IntKind.wrap, IntKind.bits, IntKind.signed]
  omega

theorem layW_far (ws : List Int) (j i : Nat) (h : 4 * j ≤ i) : layW ws j i = 0 := by
  induction j with
  | zero => rfl
  | succ j ih => simp only [layW]; rw [layTo_out _ _ _ _ _ (by omega)]; exact ih (by omega)

theorem layW_rng (ws : List Int) (j : Nat) : ∀ i, 0 ≤ layW ws j i ∧ layW ws j i ≤ 255 := by
  induction j with
  | zero => intro i; simp [layW]
  | succ j ih => exact fun i => lay_range (L := i + 1) (fun k _ => ih k) i (by omega)

/-- The first one of two words: it stands alone. -/
theorem ld_even (ws : List Int) (i : Nat) (h0 : 0 ≤ ws.getD (2 * i) 0) (h1 : ws.getD (2 * i) 0 < 4294967296) : ldV (layW ws (2 * i + 1)) (8 * i) = ws.getD (2 * i) 0 := by
  have e : layW ws (2 * i + 1) = layTo (layW ws (2 * i)) (8 * i) (ws.getD (2 * i) 0) 4 := by show layTo _ (4 * (2 * i)) _ _ = _; rw [show 4 * (2 * i) = 8 * i by omega]
  rw [e]
  generalize ws.getD (2 * i) 0 = x at *
  unfold ldV
  rw [gth8]
  have e0 := layTo_in (layW ws (2 * i)) (8 * i) x 4 0 (by omega)
  have e1 := layTo_in (layW ws (2 * i)) (8 * i) x 4 1 (by omega)
  have e2 := layTo_in (layW ws (2 * i)) (8 * i) x 4 2 (by omega)
  have e3 := layTo_in (layW ws (2 * i)) (8 * i) x 4 3 (by omega)
  simp only [Nat.add_zero, Int.pow_zero, Int.ediv_one] at e0
  rw [e0, e1, e2, e3, layTo_out _ _ _ _ _ (by omega), layTo_out _ _ _ _ _ (by omega), layTo_out _ _ _ _ _ (by omega), layTo_out _ _ _ _ _ (by omega), layW_far _ _ _ (by omega), layW_far _ _ _ (by omega), layW_far _ _ _ (by omega), layW_far _ _ _ (by omega)]
  simp only [show (256 : Int) ^ 1 = 256 from rfl, show (256 : Int) ^ 2 = 65536 from rfl, show (256 : Int) ^ 3 = 16777216 from rfl]
  unfold wrap64
  omega

/-- The second one: it stands behind the first. -/
theorem ld_odd (ws : List Int) (i : Nat) (h0 : 0 ≤ ws.getD (2 * i + 1) 0) (h1 : ws.getD (2 * i + 1) 0 < 4294967296) (g0 : 0 ≤ ws.getD (2 * i) 0) (g1 : ws.getD (2 * i) 0 < 4294967296) :
    ldV (layW ws (2 * i + 2)) (8 * i) = wrap64 (ws.getD (2 * i) 0 + ws.getD (2 * i + 1) 0 * 4294967296) := by
  have hp := ld_even ws i g0 g1
  have e : layW ws (2 * i + 2) = layTo (layW ws (2 * i + 1)) (8 * i + 4) (ws.getD (2 * i + 1) 0) 4 := by show layTo _ (4 * (2 * i + 1)) _ _ = _; rw [show 4 * (2 * i + 1) = 8 * i + 4 by omega]
  rw [e]
  have hf : ∀ k, 4 ≤ k → layW ws (2 * i + 1) (8 * i + k) = 0 := fun k hk => layW_far _ _ _ (by omega)
  have b0 := layW_rng ws (2 * i + 1) (8 * i)
  have b1 := layW_rng ws (2 * i + 1) (8 * i + 1)
  have b2 := layW_rng ws (2 * i + 1) (8 * i + 2)
  have b3 := layW_rng ws (2 * i + 1) (8 * i + 3)
  unfold ldV at hp ⊢
  rw [gth8] at hp ⊢
  rw [hf 4 (by omega), hf 5 (by omega), hf 6 (by omega), hf 7 (by omega)] at hp
  generalize ws.getD (2 * i) 0 = y at *
  generalize ws.getD (2 * i + 1) 0 = x at *
  generalize layW ws (2 * i + 1) = M at *
  have e0 := layTo_in M (8 * i + 4) x 4 0 (by omega)
  have e1 := layTo_in M (8 * i + 4) x 4 1 (by omega)
  have e2 := layTo_in M (8 * i + 4) x 4 2 (by omega)
  have e3 := layTo_in M (8 * i + 4) x 4 3 (by omega)
  simp only [Nat.add_zero, Int.pow_zero, Int.ediv_one, Nat.add_assoc, Nat.reduceAdd] at e0 e1 e2 e3
  simp only [show (256 : Int) ^ 1 = 256 from rfl, show (256 : Int) ^ 2 = 65536 from rfl, show (256 : Int) ^ 3 = 16777216 from rfl] at e1 e2 e3
  rw [e0, e1, e2, e3, layTo_out _ _ _ _ _ (by omega), layTo_out _ _ _ _ _ (by omega), layTo_out _ _ _ _ _ (by omega), layTo_out _ _ _ _ _ (by omega)]
  unfold wrap64 at hp ⊢
  have hy : M (8 * i) + M (8 * i + 1) * 256 + M (8 * i + 2) * 65536 + M (8 * i + 3) * 16777216 = y := by omega
  have hx : x % 256 * 4294967296 + x / 256 % 256 * 1099511627776 + x / 65536 % 256 * 281474976710656 + x / 16777216 % 256 * 72057594037927936 = x * 4294967296 := by omega
  rw [← hy, ← hx]
  congr 1
  omega

/-- Other words are as they were. -/
theorem ld_else (ws : List Int) (j i : Nat) (h : i ≠ j / 2) : ldV (layW ws (j + 1)) (8 * i) = ldV (layW ws j) (8 * i) := by
  unfold ldV
  rw [gth8, gth8]
  simp only [layW]
  rw [layTo_out _ _ _ _ _ (by omega), layTo_out _ _ _ _ _ (by omega), layTo_out _ _ _ _ _ (by omega), layTo_out _ _ _ _ _ (by omega), layTo_out _ _ _ _ _ (by omega), layTo_out _ _ _ _ _ (by omega), layTo_out _ _ _ _ _ (by omega), layTo_out _ _ _ _ _ (by omega)]

/-- What is there before the first one of two words: nothing. -/
theorem ld_none (ws : List Int) (i : Nat) : ldV (layW ws (2 * i)) (8 * i) = 0 := by
  unfold ldV
  rw [gth8, layW_far _ _ _ (by omega), layW_far _ _ _ (by omega), layW_far _ _ _ (by omega), layW_far _ _ _ (by omega), layW_far _ _ _ (by omega), layW_far _ _ _ (by omega), layW_far _ _ _ (by omega), layW_far _ _ _ (by omega)]
  simp [wrap64]
end Go.Proofs.YtaodcpdkobhmfaaDoor

namespace Go.Proofs.YtaodcpdkobhmfaaDoor
open Go Go.RowKit Go.Maps

/-- Numbers that are handed to the document's machine. -/
def GivIn (w : World) (iv : Value) (G : List Int) : Prop :=
  (G = [] ∧ ∃ p c, iv = .slice p 0 c) ∨ ∃ gb o c, iv = .slice (some ⟨gb, o, none⟩) G.length c ∧ G.length ≤ c ∧ c ≤ 9223372036854775807 ∧ gb < w.heap.size ∧ ∀ i (hi : i < G.length), w.cell? ⟨gb, o + i, none⟩ = some (.int .i64 (G[i]'hi))

theorem GivIn.form {w : World} {iv : Value} {G : List Int} (h : GivIn w iv G) : ∃ q c, iv = .slice q G.length c := by
  rcases h with ⟨rfl, p, c, rfl⟩ | ⟨gb, o, c, h1, _⟩
  · exact ⟨p, c, rfl⟩
  · exact ⟨_, _, h1⟩

def newDL (mb L : Nat) (gv : Value) : List Value := List.replicate 32 (.int .i64 0) ++ [.map (some mb), .int .i64 (L : Int), .int .i64 0, gv, .int .i64 0, .int .i64 0, .slice none 0 0]

theorem off_of_grown' {w w' : World} {mb : Nat} (h : w.grownBy w' (some mb)) : Off (· = mb) w w' := ⟨h.os, h.tape, h.output, h.size, fun k hk hn => h.block k hk (by simpa using hn)⟩
theorem ldV_rng (M : Nat → Int) (i : Nat) : -9223372036854775808 ≤ ldV M i ∧ ldV M i ≤ 9223372036854775807 := by unfold ldV wrap64; omega

theorem wds_new {W : World} {mb L : Nat} (h : W.ownsMap Tryd.prog 2 (plainElem Tryd.prog 2) mb 0 (.map [] : DataW Unit)) : WdsIs W mb 0 L (fun _ => 0) := by
  refine ⟨fun _ => 0, ⟨_, h, fun a _ => rfl⟩, fun i _ => ?_⟩
  unfold ldV
  rw [gth8]
  simp [wrap64]

theorem dmac_new {W : World} {B s mb L : Nat} {gv : Value} {G : List Int} (hs : W.heap[s]? = some (.cells (newDL mb L gv).toArray 59)) (hm : W.ownsMap Tryd.prog 2 (plainElem Tryd.prog 2) mb 0 (.map [] : DataW Unit)) (b0 : mb < W.heap.size) (ne : s ≠ mb) (hL : L ≤ 65536) (hB1 : 1 < B) (hBs : B ≤ s) (hBm : B ≤ mb)
    (hg : Giv W s mb gv (.slice none 0 0) G) : DMac W B s mb 0 L (ms0 G) gv (.slice none 0 0) := by
  have c : ∀ i, W.cell? ⟨s, i, none⟩ = (newDL mb L gv)[i]? := fun i => by rw [cell_of_row _ _ _ _ _ _ hs]; simp
  have s0 : s < W.heap.size := by
    rcases Nat.lt_or_ge s W.heap.size with h | h
    · exact h
    · rw [Array.getElem?_eq_none h] at hs; cases hs
  refine ⟨?_, hB1, hBs, hBm, hg, World.ownsRow_nil _ _ _ _, by simp [Value.ownBlock], by simp [Value.ownBlock], by simp [ms0]⟩
  exact { s0 := s0, b0 := b0, ne := ne, L1 := hL, reg := fun i hi => by
            rw [c]; unfold newDL; rw [List.getElem?_append_left (by simpa using hi), List.getElem?_replicate, if_pos hi]; rfl
          mem := by rw [c]; rfl, siz := by rw [c]; rfl, pc := by rw [c]; rfl, giv := by rw [c]; rfl, way := by rw [c]; rfl, cod := by rw [c]; rfl, out := by rw [c]; rfl,
          wds := wds_new hm, fs := fun i => frozen_row hs i }

/-- The word that is there behind the next one. -/
theorem word_val (ws : List Int) (j : Nat) (c : Int) (hr : ∀ k, k ≤ j → 0 ≤ ws.getD k 0 ∧ ws.getD k 0 < 4294967296) (hc : c = ldV (layW ws j) (8 * (j / 2))) :
    (j % 2 = 0 → bits .or .i64 c (ws.getD j 0) = ldV (layW ws (j + 1)) (8 * (j / 2))) ∧ (j % 2 = 1 → bits .or .i64 c (wrap64 (ws.getD j 0 * 4294967296)) = ldV (layW ws (j + 1)) (8 * (j / 2))) := by
  refine ⟨fun h => ?_, fun h => ?_⟩
  · obtain ⟨i, rfl⟩ : ∃ i, j = 2 * i := ⟨j / 2, by omega⟩
    have e : 2 * i / 2 = i := by omega
    rw [e] at hc ⊢
    rw [ld_none] at hc
    obtain ⟨h0, h1⟩ := hr (2 * i) (by omega)
    rw [hc, or_zero _ h0 h1, ld_even ws i h0 h1]
  · obtain ⟨i, rfl⟩ : ∃ i, j = 2 * i + 1 := ⟨j / 2, by omega⟩
    have e : (2 * i + 1) / 2 = i := by omega
    rw [e] at hc ⊢
    obtain ⟨h0, h1⟩ := hr (2 * i + 1) (by omega)
    obtain ⟨g0, g1⟩ := hr (2 * i) (by omega)
    rw [ld_even ws i g0 g1] at hc
    rw [hc, or_two _ _ g0 g1 h0 h1, ld_odd ws i h0 h1 g0 g1]

theorem wds_next {w w9 : World} {mb j L : Nat} {ws : List Int} {V : Int → Int} {D : DataW Unit} {v : Int} (hD : w.ownsMap Tryd.prog 2 (plainElem Tryd.prog 2) mb j D)
    (hat : ∀ a, (Lit.int .i64 a).wf = true → D.atKey (.int .i64 a) (.lit (.int .i64 0)) = .lit (.int .i64 (V a))) (hV : ∀ i : Nat, 8 * i + 8 ≤ L → V ((8 * i : Nat) : Int) = ldV (layW ws j) (8 * i))
    (h9 : w9.ownsMap Tryd.prog 2 (plainElem Tryd.prog 2) mb (j + 1) (D.put (.int .i64 (4 * (j : Int) / 8 * 8)) (.lit (.int .i64 v)))) (hv : v = ldV (layW ws (j + 1)) (8 * (j / 2))) : WdsIs w9 mb (j + 1) L (layW ws (j + 1)) := by
  refine ⟨_, Words.put hD hat h9, fun i hi => ?_⟩
  show (if ((8 * i : Nat) : Int) = 4 * (j : Int) / 8 * 8 then v else V ((8 * i : Nat) : Int)) = _
  by_cases e : i = j / 2
  · subst e
    rw [if_pos (by omega), hv]
  · rw [if_neg (by omega), hV i hi, ld_else ws j i e]

set_option maxRecDepth 100000 in
set_option maxHeartbeats 2000000 in
theorem newdoc_core (w : World) (g o cw : Nat) (ws : List Int) (L : Nat) (iv : Value) (G : List Int) (hL0 : 8 ≤ L) (hL1 : L ≤ 65536) (hL2 : (L : Int) % 8 = 0) (hk : 4 * ws.length ≤ L) (hW : SrcW w g o cw ws) (hG : GivIn w iv G) (hw1 : 1 < w.heap.size) (hl : ws.length ≤ 60) :
    Calls Tryd.prog 6 #[.slice (some ⟨g, o, none⟩) ws.length cw, .int .i64 (L : Int), iv] w fun e w' => ∃ s, e = .returned (.tuple #[.pointer (some ⟨s, 0, none⟩), .int .i64 0]) ∧ ∃ mb, DMac w' w.heap.size s mb ws.length L (newV L ws G) iv (.slice none 0 0) ∧ Below w.heap.size w w' := by
  obtain ⟨q', c', hiv⟩ := hG.form
  have hmm := @run_makeMap Tryd.prog
  have HMK : Hid (∀ X, X = (w.alloc (.map #[] 0)).alloc (.cells (newDL w.heap.size L iv).toArray 59) → DMac X w.heap.size (w.heap.size + 1) w.heap.size 0 L (ms0 G) iv (.slice none 0 0) ∧ Below w.heap.size w X) := fun X hX => by
    subst hX
    have hb : Below w.heap.size w ((w.alloc (.map #[] 0)).alloc (.cells (newDL w.heap.size L iv).toArray 59)) := ((Below.refl _ _).alloc (Nat.le_refl _) _).alloc (by simp) _
    refine ⟨dmac_new (heap_alloc2_new _ _ _) ((World.ownsMap_made _ _ _ _).alloc _) (by simp; omega) (by omega) hL1 hw1 (by omega) (Nat.le_refl _) ?_, hb⟩
    rcases hG with h | ⟨gb, o, c, h1, h2, h3, h4, h5⟩
    · exact .inl h
    · refine .inr ⟨gb, o, c, h1, h2, h3, Nat.lt_of_lt_of_le h4 hb.size, by omega, by omega, by simp [Value.ownBlock], fun i hi => ?_⟩
      rw [hb.cell (p := ⟨gb, o + i, none⟩) h4]; exact h5 i hi
  have HW : Hid (SrcW w g o cw ws) := hW
  rw [hiv] at HMK
  rw [hiv]
  clear hG hW hiv
  generalize G.length = gl at *
  go_enter Tryd.func6, Tryd.ntmps6
  go_wp2_with fail
  generalize hWW : World.alloc (World.alloc w _) _ = W
  obtain ⟨hm, hbw⟩ := HMK.out W (by rw [← hWW]; rfl)
  clear HMK hWW
  have HM0 : Hid (DMac W w.heap.size (w.heap.size + 1) w.heap.size 0 L (ms0 G) (.slice q' gl c') (.slice none 0 0)) := hm
  have HBW : Hid (Below w.heap.size w W) := hbw
  clear hm hbw
  have hcl := HW.out.le
  go_loopw [35] (fun i wr => ∃ j : Nat, j ≤ ws.length ∧ i = .int .i64 j ∧ Hid (DMac wr w.heap.size (w.heap.size + 1) w.heap.size j L { ms0 G with M := layW ws j } (.slice q' gl c') (.slice none 0 0) ∧ Off (· = w.heap.size) W wr)) (fun i _ => ws.length - (intOf i).toNat)
  case atStart => exact ⟨0, Nat.zero_le _, rfl, HM0.out, Off.refl _ _⟩
  case round =>
    obtain ⟨j, hj, rfl, hr⟩ := hrel
    by_cases hlt : j < ws.length
    · have hgl : g < w.heap.size := block_lt_of_cell (HW.out.cell j hlt)
      have hcw : wr.cell? ⟨g, o + j, none⟩ = some (.int .u32 (ws.getD j 0)) := by
        rw [hr.out.2.cell (p := ⟨g, o + j, none⟩) (by have := HBW.out.size; show g < W.heap.size; omega) (by show ¬ g = w.heap.size; omega), HBW.out.cell (p := ⟨g, o + j, none⟩) hgl]
        exact HW.out.cell j hlt
      obtain ⟨x0, x1⟩ := HW.out.rng j hlt
      have c32 := hr.out.1.core.mem
      obtain ⟨V, ⟨D, hown, hat⟩, hV⟩ := hr.out.1.drew.core.wds
      have hki : (4 * (j : Int) / 8 * 8) = ((8 * (j / 2) : Nat) : Int) := by omega
      have hwf : (Lit.int .i64 (4 * (j : Int) / 8 * 8)).wf = true := WalkArith.wf_i64 (by omega)
      have HKY : Hid (keyOf Tryd.prog 2 (.int .i64 (4 * (j : Int) / 8 * 8)) = some (.int .i64 (4 * (j : Int) / 8 * 8))) := keyOf_int_mk Tryd.underlying2 hwf
      obtain ⟨c, hlk, hac, _⟩ := hown.lookup_int keyed2 Tryd.underlying56 Tryd.underlying2 (zero2 _) HKY.out
      have hcv : c = ldV (layW ws j) (8 * (j / 2)) := by
        have e1 := hat _ hwf
        rw [hac] at e1
        have e2 : c = V (4 * (j : Int) / 8 * 8) := by injection e1 with e1; injection e1
        rw [e2, hki, hV (j / 2) (by omega)]
      have HO : Hid (wr.drew.ownsMap Tryd.prog 2 (plainElem Tryd.prog 2) w.heap.size j D) := hown
      have HT : Hid (∀ a, (Lit.int .i64 a).wf = true → D.atKey (.int .i64 a) (.lit (.int .i64 0)) = .lit (.int .i64 (V a))) := hat
      have HV : Hid (∀ i : Nat, 8 * i + 8 ≤ L → V ((8 * i : Nat) : Int) = ldV (layW ws j) (8 * i)) := hV
      have HCV : Hid (c = ldV (layW ws j) (8 * (j / 2))) := hcv
      clear hown hat hV hcv hac hki hwf
      have HVV : Hid (_ ∧ _) := word_val ws j c (fun k hk => HW.out.rng k (by omega)) HCV.out
      have HN : Hid (j < maxLen) := by show j < maxLen; unfold maxLen; omega
      obtain ⟨x, hx⟩ : ∃ x, ws.getD j 0 = x := ⟨_, rfl⟩
      rw [hx] at hcw x0 x1
      have HX : Hid (ws.getD j 0 = x) := hx
      clear hx
      rcases (show j % 2 = 0 ∨ j % 2 = 1 by omega) with h2 | h2
      · have h2' : (j : Int) % 2 = 0 := by omega
        obtain ⟨w9, hup, h9, hg9⟩ := HO.out.update keyed2 Tryd.underlying56 HN.out HKY.out (plainElem_int (H := Unit) Tryd.underlying2 (WalkArith.wf_i64 (show -9223372036854775808 ≤ bits .or .i64 c (ws.getD j 0) ∧ bits .or .i64 c (ws.getD j 0) ≤ 9223372036854775807 by rw [HVV.out.1 h2]; exact ldV_rng _ _)))
        have HZ : Hid (DMac w9 w.heap.size (w.heap.size + 1) w.heap.size (j + 1) L { ms0 G with M := layW ws (j + 1) } (.slice q' gl c') (.slice none 0 0) ∧ Off (· = w.heap.size) W w9) := by
          have hW9 : WdsIs w9 w.heap.size (j + 1) L (layW ws (j + 1)) := wds_next HO.out HT.out HV.out h9 (HVV.out.1 h2)
          have hd9 := hr.out.1.drew.core.grown hg9 hW9
          exact ⟨(hr.out.1.drew.more (Nat.le_succ j)).inM (off_of_grown' hg9) hd9 rfl rfl, (hr.out.2.drew).trans (off_of_grown' hg9)⟩
        clear h9 hg9
        rw [HX.out] at hup
        go_wp2_with fail
        go_region
        all_goals
          go_wp2
          exact ⟨⟨j + 1, by omega, by go_num, HZ⟩, by simp [intOf]; omega⟩
      · have h2' : (j : Int) % 2 = 1 := by omega
        obtain ⟨w9, hup, h9, hg9⟩ := HO.out.update keyed2 Tryd.underlying56 HN.out HKY.out (plainElem_int (H := Unit) Tryd.underlying2 (WalkArith.wf_i64 (show -9223372036854775808 ≤ bits .or .i64 c (wrap64 (ws.getD j 0 * 4294967296)) ∧ bits .or .i64 c (wrap64 (ws.getD j 0 * 4294967296)) ≤ 9223372036854775807 by rw [HVV.out.2 h2]; exact ldV_rng _ _)))
        have HZ : Hid (DMac w9 w.heap.size (w.heap.size + 1) w.heap.size (j + 1) L { ms0 G with M := layW ws (j + 1) } (.slice q' gl c') (.slice none 0 0) ∧ Off (· = w.heap.size) W w9) := by
          have hW9 : WdsIs w9 w.heap.size (j + 1) L (layW ws (j + 1)) := wds_next HO.out HT.out HV.out h9 (HVV.out.2 h2)
          have hd9 := hr.out.1.drew.core.grown hg9 hW9
          exact ⟨(hr.out.1.drew.more (Nat.le_succ j)).inM (off_of_grown' hg9) hd9 rfl rfl, (hr.out.2.drew).trans (off_of_grown' hg9)⟩
        clear h9 hg9
        rw [HX.out] at hup
        go_wp2_with fail
        go_region
        all_goals
          go_wp2
          exact ⟨⟨j + 1, by omega, by go_num, HZ⟩, by simp [intOf]; omega⟩
    · obtain rfl : j = ws.length := by omega
      have c2 := hr.out.1.core.reg 2 (by omega)
      have f2 := hr.out.1.core.fs 2
      have c33 := hr.out.1.core.siz
      go_wp2_with fail
      go_region
      all_goals
        go_wp2
        go_ret2
        refine ⟨w.heap.size + 1, rfl, w.heap.size, (hr.out.1.drew).setReg 2 (by omega) (L : Int), ?_⟩
        have q1 : Below w.heap.size W wr := hr.out.2.below (by have := HBW.out.size; omega) (fun i hi e => by omega)
        exact ((HBW.out.trans q1).drew).setCell (p := ⟨w.heap.size + 1, 2, none⟩) (by show w.heap.size ≤ w.heap.size + 1; omega) _
end Go.Proofs.YtaodcpdkobhmfaaDoor
