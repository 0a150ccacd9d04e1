/- A machine that tells 5, as plain mathematics. The fact 'driven', walked: a machine that tells 5. MachineKeeps: what is put is there: the plain mathematics, and pick. MachineKeeps, walked: what the walks share. -/
import Derived.Test.YtaodcpdkobhmfaaDoorI3
import Derived.Test.YtaodcpdkobhmfaaDoorI4
import Derived.Test.YtaodcpdkobhmfaaDoorMG
namespace Go.Proofs.YtaodcpdkobhmfaaDoor
open Go Go.RowKit

theorem gth4 (M : Nat → Int) (a : Nat) : gthTo M a 4 = M a + M (a + 1) * 256 + M (a + 2) * 65536 + M (a + 3) * 16777216 := by
  simp [gthTo]
theorem gth8 (M : Nat → Int) (a : Nat) : gthTo M a 8 = M a + M (a + 1) * 256 + M (a + 2) * 65536 + M (a + 3) * 16777216 + M (a + 4) * 4294967296 + M (a + 5) * 1099511627776 + M (a + 6) * 281474976710656 + M (a + 7) * 72057594037927936 := by
  simp [gthTo]

theorem layTo_in (M : Nat → Int) (a : Nat) (v : Int) (k i : Nat) (h : i < k) : layTo M a v k (a + i) = v / 256 ^ i % 256 := by
  unfold layTo; rw [if_pos (by omega)]; congr; omega
theorem layTo_out (M : Nat → Int) (a : Nat) (v : Int) (k j : Nat) (h : j < a ∨ a + k ≤ j) : layTo M a v k j = M j := by
  unfold layTo; rw [if_neg (by omega)]

theorem gth_lay4 (M : Nat → Int) (a : Nat) (v : Int) (h0 : 0 ≤ v) (h1 : v < 4294967296) : gthTo (layTo M a v 4) a 4 = v := by
  rw [gth4]
  have e0 := layTo_in M a v 4 0 (by omega)
  have e1 := layTo_in M a v 4 1 (by omega)
  have e2 := layTo_in M a v 4 2 (by omega)
  have e3 := layTo_in M a v 4 3 (by omega)
  simp at e0 e1 e2 e3
  rw [e0, e1, e2, e3]
  omega
theorem gth_lay4_out (M : Nat → Int) (a b : Nat) (v : Int) (h : b + 4 ≤ a ∨ a + 4 ≤ b) : gthTo (layTo M a v 4) b 4 = gthTo M b 4 := by
  rw [gth4, gth4]
  rw [layTo_out _ _ _ _ _ (by omega), layTo_out _ _ _ _ _ (by omega), layTo_out _ _ _ _ _ (by omega), layTo_out _ _ _ _ _ (by omega)]

theorem gth_layW (ws : List Int) (n j : Nat) (hj : j < n) (h : 0 ≤ ws.getD j 0 ∧ ws.getD j 0 < 4294967296) : gthTo (layW ws n) (4 * j) 4 = ws.getD j 0 := by
  induction n with
  | zero => omega
  | succ n ih =>
    simp only [layW]
    by_cases e : j = n
    · subst e; exact gth_lay4 _ _ _ h.1 h.2
    · rw [gth_lay4_out _ _ _ _ (by omega)]; exact ih (by omega)

theorem has4 (L j : Nat) (h : 4 * j + 4 ≤ L) : hasB L ((4 * j : Nat) : Int) 4 = true := by
  simp [hasB]; omega

/-- What is fetched of words that were laid. -/
theorem fet_layW (ws : List Int) (L j : Nat) (i : In) (hj : j < ws.length) (hL : 4 * ws.length ≤ L) (hi : i.rt = true) (hw : ws.getD j 0 = i.wd) : fetV L (layW ws ws.length) ((4 * j : Nat) : Int) = some i := by
  unfold fetV
  rw [if_pos (has4 L j (by omega)), Int.toNat_natCast, gth_layW ws _ j hj (by rw [hw]; exact Wd_range _ _ _ _ _ hi), hw]
  exact decV_wd i hi

theorem step_eq {L : Nat} {m m' : MS} {i : In} {z : Int} (h0 : m.way = 0) (hf : fetV L m.M m.pc = some i) (hd : doV L m i = (m', z)) (hw : m'.way = 0) : stepV L m = { m' with pc := z } := by
  unfold stepV
  rw [if_pos h0, hf]
  dsimp only
  rw [hd]
  dsimp only
  rw [if_pos hw]
theorem step_eq_end {L : Nat} {m m' : MS} {i : In} {z : Int} (h0 : m.way = 0) (hf : fetV L m.M m.pc = some i) (hd : doV L m i = (m', z)) (hw : m'.way ≠ 0) : stepV L m = m' := by
  unfold stepV
  rw [if_pos h0, hf]
  dsimp only
  rw [hd]
  dsimp only
  rw [if_neg hw]

def insL : List In := [⟨14, 10, 0, 0, 5⟩, ⟨14, 17, 0, 0, 1⟩, ⟨31, 0, 0, 0, 0⟩, ⟨14, 10, 0, 0, 1⟩, ⟨14, 17, 0, 0, 3⟩, ⟨31, 0, 0, 0, 0⟩]
def wordL : List Int := insL.map In.wd
theorem insL_rt (j : Nat) (h : j < 6) : (insL.getD j ⟨0, 0, 0, 0, 0⟩).rt = true := by
  have : j = 0 ∨ j = 1 ∨ j = 2 ∨ j = 3 ∨ j = 4 ∨ j = 5 := by omega
  rcases this with rfl | rfl | rfl | rfl | rfl | rfl <;> decide
theorem wordL_get (j : Nat) (h : j < 6) : wordL.getD j 0 = (insL.getD j ⟨0, 0, 0, 0, 0⟩).wd := by
  have : j = 0 ∨ j = 1 ∨ j = 2 ∨ j = 3 ∨ j = 4 ∨ j = 5 := by omega
  rcases this with rfl | rfl | rfl | rfl | rfl | rfl <;> rfl

theorem addi_eq {L : Nat} {m : MS} {d n : Int} (hd : d ≠ 0) (hr : m.R 0 = 0) (h0 : -2048 ≤ n) (h1 : n ≤ 2047) : doV L m ⟨14, d, 0, 0, n⟩ = ({ m with R := upd m.R d.toNat n }, wrap64 (m.pc + 4)) := by
  unfold doV
  rw [if_neg (by simp), if_pos (by simp)]
  simp only [writeV, if_neg hd, Int.toNat_zero, hr]
  have : Alu.aluV 14 0 n = n := by
    unfold Alu.aluV; rw [if_pos (by simp)]; unfold wrap64; omega
  rw [this]

theorem ecall_eq {L : Nat} {m : MS} : doV L m ⟨31, 0, 0, 0, 0⟩ = (callV m, wrap64 (m.pc + 4)) := by
  unfold doV; simp

theorem fet_ins (j : Nat) (h : j < 6) : fetV 64 (layW wordL 6) ((4 * j : Nat) : Int) = some (insL.getD j ⟨0, 0, 0, 0, 0⟩) :=
  fet_layW wordL 64 j _ h (by decide) (insL_rt j h) (wordL_get j h)

abbrev dS (R : Nat → Int) (pc way : Int) (out : List Int) : MS := ⟨R, layW wordL 6, pc, [], way, 0, out⟩
abbrev dR : Nat → Int := upd (fun _ => 0) 2 64

theorem dAddi (R : Nat → Int) (j : Nat) (out : List Int) (d n pc pc' : Int) (k : Nat) (hj : j < 6) (hi : insL.getD j ⟨0, 0, 0, 0, 0⟩ = ⟨14, d, 0, 0, n⟩) (hd : d ≠ 0) (hr : R 0 = 0) (h0 : -2048 ≤ n) (h1 : n ≤ 2047) (hp : ((4 * j : Nat) : Int) = pc) (hq : wrap64 (pc + 4) = pc') (hk : d.toNat = k) :
    stepV 64 (dS R pc 0 out) = dS (upd R k n) pc' 0 out := by
  subst hp hq hk
  have hf := fet_ins j hj
  rw [hi] at hf
  have hd' := addi_eq (L := 64) (m := dS R ((4 * j : Nat) : Int) 0 out) (d := d) (n := n) hd hr h0 h1
  rw [step_eq (m := dS R ((4 * j : Nat) : Int) 0 out) rfl hf hd' rfl]
theorem dCall (R : Nat → Int) (j : Nat) (out out' : List Int) (pc pc' : Int) (hj : j < 6) (hi : insL.getD j ⟨0, 0, 0, 0, 0⟩ = ⟨31, 0, 0, 0, 0⟩) (hm : callV (dS R pc 0 out) = dS R pc 0 out') (hp : ((4 * j : Nat) : Int) = pc) (hq : wrap64 (pc + 4) = pc') :
    stepV 64 (dS R pc 0 out) = dS R pc' 0 out' := by
  subst hp hq
  have hf := fet_ins j hj
  rw [hi] at hf
  have hd' := ecall_eq (L := 64) (m := dS R ((4 * j : Nat) : Int) 0 out)
  rw [hm] at hd'
  rw [step_eq (m := dS R ((4 * j : Nat) : Int) 0 out) rfl hf hd' rfl]
theorem dEnd (R : Nat → Int) (j : Nat) (out : List Int) (m' : MS) (pc : Int) (hj : j < 6) (hi : insL.getD j ⟨0, 0, 0, 0, 0⟩ = ⟨31, 0, 0, 0, 0⟩) (hm : callV (dS R pc 0 out) = m') (hw : m'.way ≠ 0) (hp : ((4 * j : Nat) : Int) = pc) :
    stepV 64 (dS R pc 0 out) = m' := by
  subst hp
  have hf := fet_ins j hj
  rw [hi] at hf
  have hd' := ecall_eq (L := 64) (m := dS R ((4 * j : Nat) : Int) 0 out)
  rw [hm] at hd'
  rw [step_eq_end (m := dS R ((4 * j : Nat) : Int) 0 out) rfl hf hd' hw]

theorem drive : (runV 64 100 (newV 64 wordL [])).way = 1 ∧ (runV 64 100 (newV 64 wordL [])).out = [5] ∧ (runV 64 100 (newV 64 wordL [])).pc = 20 := by
  have e0 : newV 64 wordL [] = dS dR 0 0 [] := rfl
  have e1 : stepV 64 (dS dR 0 0 []) = dS (upd dR 10 5) 4 0 [] := dAddi dR 0 [] 10 5 0 4 10 (by omega) rfl (by omega) rfl (by omega) (by omega) rfl (by unfold wrap64; omega) rfl
  have e2 : stepV 64 (dS (upd dR 10 5) 4 0 []) = dS (upd (upd dR 10 5) 17 1) 8 0 [] := dAddi (upd dR 10 5) 1 [] 17 1 4 8 17 (by omega) rfl (by omega) rfl (by omega) (by omega) rfl (by unfold wrap64; omega) rfl
  have e3 : stepV 64 (dS (upd (upd dR 10 5) 17 1) 8 0 []) = dS (upd (upd dR 10 5) 17 1) 12 0 [5] := dCall (upd (upd dR 10 5) 17 1) 2 [] [5] 8 12 (by omega) rfl rfl rfl (by unfold wrap64; omega)
  have e4 : stepV 64 (dS (upd (upd dR 10 5) 17 1) 12 0 [5]) = dS (upd (upd (upd dR 10 5) 17 1) 10 1) 16 0 [5] := dAddi (upd (upd dR 10 5) 17 1) 3 [5] 10 1 12 16 10 (by omega) rfl (by omega) rfl (by omega) (by omega) rfl (by unfold wrap64; omega) rfl
  have e5 : stepV 64 (dS (upd (upd (upd dR 10 5) 17 1) 10 1) 16 0 [5]) = dS (upd (upd (upd (upd dR 10 5) 17 1) 10 1) 17 3) 20 0 [5] := dAddi (upd (upd (upd dR 10 5) 17 1) 10 1) 4 [5] 17 3 16 20 17 (by omega) rfl (by omega) rfl (by omega) (by omega) rfl (by unfold wrap64; omega) rfl
  have e6 : stepV 64 (dS (upd (upd (upd (upd dR 10 5) 17 1) 10 1) 17 3) 20 0 [5]) = dS (upd (upd (upd (upd dR 10 5) 17 1) 10 1) 17 3) 20 1 [5] := dEnd (upd (upd (upd (upd dR 10 5) 17 1) 10 1) 17 3) 5 [5] _ 20 (by omega) rfl rfl (by simp) rfl
  rw [show (100 : Nat) = 6 + 94 by rfl, runV_add, e0]
  have h6 : runV 64 6 (dS dR 0 0 []) = dS (upd (upd (upd (upd dR 10 5) 17 1) 10 1) 17 3) 20 1 [5] := by
    simp only [runV]
    rw [e1, e2, e3, e4, e5, e6]
  rw [h6, runV_ended (by simp)]
  exact ⟨rfl, rfl, rfl⟩
end Go.Proofs.YtaodcpdkobhmfaaDoor

namespace Go.Proofs.YtaodcpdkobhmfaaDoor
open Go Go.RowKit

theorem info54 : (Tryd.prog.info? 54).map (fun i => (i.zero, i.size, i.bytes)) = some (some (.int .u32 0), 1, 4) := by kernel_rfl

abbrev u32L (l : List Int) : List Value := l.map fun x => Value.int .u32 x

def insCells : List Value := insL.flatMap fun i => [.int .i64 i.o, .int .i64 i.d, .int .i64 i.a, .int .i64 i.b, .int .i64 i.n]

theorem insCells_get (j t : Nat) (hj : j < 6) (ht : t < 5) : insCells[j * 5 + t]? = some (match t with | 0 => .int .i64 (insL.getD j ⟨0, 0, 0, 0, 0⟩).o | 1 => .int .i64 (insL.getD j ⟨0, 0, 0, 0, 0⟩).d | 2 => .int .i64 (insL.getD j ⟨0, 0, 0, 0, 0⟩).a | 3 => .int .i64 (insL.getD j ⟨0, 0, 0, 0, 0⟩).b | _ => .int .i64 (insL.getD j ⟨0, 0, 0, 0, 0⟩).n) := by
  have h1 : j = 0 ∨ j = 1 ∨ j = 2 ∨ j = 3 ∨ j = 4 ∨ j = 5 := by omega
  have h2 : t = 0 ∨ t = 1 ∨ t = 2 ∨ t = 3 ∨ t = 4 := by omega
  rcases h1 with rfl | rfl | rfl | rfl | rfl | rfl <;> rcases h2 with rfl | rfl | rfl | rfl | rfl <;> rfl

/-- What the loop keeps. -/
structure DrC (w wr : World) (j : Nat) (v : Value) : Prop where
  own : wr.ownsRow w.heap.size 54 1 v j (u32L (wordL.take j))
  bel : Below w.heap.size w wr
  row : wr.heap[w.heap.size]? = some (.cells insCells.toArray 71)
  ne : v.ownBlock ≠ some w.heap.size

theorem own_form' {w : World} {B e n : Nat} {v : Value} {xs : List Value} (h : w.ownsRow B e 1 v n xs) : ∃ q c, v = .slice q n c := by
  rcases h.2 with ⟨h1, h2⟩ | ⟨g, cap, cur, hv, _⟩
  · exact ⟨none, 0, by rw [h1, h2]⟩
  · exact ⟨_, _, hv⟩

theorem take_wordL (j : Nat) (hj : j < 6) : wordL.take (j + 1) = wordL.take j ++ [wordL.getD j 0] := by
  have h1 : j = 0 ∨ j = 1 ∨ j = 2 ∨ j = 3 ∨ j = 4 ∨ j = 5 := by omega
  rcases h1 with rfl | rfl | rfl | rfl | rfl | rfl <;> rfl

theorem wordL_rng (j : Nat) (hj : j < 6) : 0 ≤ wordL.getD j 0 ∧ wordL.getD j 0 < 4294967296 := by
  rw [wordL_get j hj]; exact Wd_range _ _ _ _ _ (insL_rt j hj)

/-- Run of that machine: what it tells. -/
theorem drive_run (w : World) (B s mb : Nat) (gv ov : Value) (h : Mac w B s mb 64 (newV 64 wordL []) gv ov) (ht : Tabs T w) :
    Calls Tryd.prog 17 #[.pointer (some ⟨s, 0, none⟩), .int .i64 100] w fun e w' => ∃ C v', e = .returned (.agg #[.int .i64 1, .int .i64 C, v']) ∧ w'.ownsRow w.heap.size 2 1 v' 1 [.int .i64 5] ∧ w'.cell? ⟨s, 33, none⟩ = some (.int .i64 20) ∧ Below B w w' := by
  obtain ⟨d1, d2, d3⟩ := drive
  refine (run_any w B s mb 64 100 _ gv ov h ht (by omega)).mono ?_
  rintro e w' ⟨v', gv', ov', rfl, r⟩
  refine ⟨_, v', by rw [wayV_1 d1 (by omega)], ?_, ?_, r.off.below (by have := h.core.s0; have := h.Bs; omega) ?_⟩
  · have := r.own
    rw [d2] at this
    exact this
  · have := r.mac.core.pc
    rw [d3] at this
    exact this
  · have b2 := h.Bs
    have b3 := h.Bm
    rintro i hi (e | e | e)
    · omega
    · omega
    · have := (h.ob e).1; omega

set_option maxRecDepth 100000 in
set_option maxHeartbeats 2000000 in
theorem driven_any (w : World) (ht : Tabs T w) :
    Calls Tryd.prog 19 #[] w fun e w' => e = .returned (.bool true) ∧ Below w.heap.size w w' := by
  have HT : Hid (Tabs T w) := ht
  have hz1 : 1 < w.heap.size := (ht 1 (by omega) (by omega)).z1
  clear ht
  obtain ⟨i0, hi0, hi1, hi2, hi3⟩ := info_parts info54
  go_enter Tryd.func19, Tryd.ntmps19
  go_wp2_with fail
  generalize hW : World.alloc w _ = W
  have HD0 : Hid (DrC w W 0 (.slice none 0 0)) := by
    rw [← hW]
    exact ⟨World.ownsRow_nil _ _ _ _, (Below.refl _ _).alloc (Nat.le_refl _) _, heap_alloc_last w _, by simp [Value.ownBlock]⟩
  clear hW
  go_loopw [1, 17] (fun v i wr => ∃ j : Nat, j ≤ 6 ∧ i = .int .i64 j ∧ Hid (DrC w wr j v)) (fun _ i _ => 6 - (intOf i).toNat)
  case atStart => exact ⟨0, by omega, rfl, HD0⟩
  case round =>
    obtain ⟨j, hj, rfl, hd⟩ := hrel
    by_cases hlt : j < 6
    · obtain ⟨q, c, hv⟩ := own_form' hd.out.own
      subst hv
      have x0 : wr.cell? ⟨w.heap.size, j * 5, none⟩ = some (.int .i64 (insL.getD j ⟨0, 0, 0, 0, 0⟩).o) := by rw [cell_of_row _ _ _ _ _ _ hd.out.row]; simpa using insCells_get j 0 hlt (by omega)
      have x1 : wr.cell? ⟨w.heap.size, j * 5 + 1, none⟩ = some (.int .i64 (insL.getD j ⟨0, 0, 0, 0, 0⟩).d) := by rw [cell_of_row _ _ _ _ _ _ hd.out.row]; simpa using insCells_get j 1 hlt (by omega)
      have x2 : wr.cell? ⟨w.heap.size, j * 5 + 2, none⟩ = some (.int .i64 (insL.getD j ⟨0, 0, 0, 0, 0⟩).a) := by rw [cell_of_row _ _ _ _ _ _ hd.out.row]; simpa using insCells_get j 2 hlt (by omega)
      have x3 : wr.cell? ⟨w.heap.size, j * 5 + 3, none⟩ = some (.int .i64 (insL.getD j ⟨0, 0, 0, 0, 0⟩).b) := by rw [cell_of_row _ _ _ _ _ _ hd.out.row]; simpa using insCells_get j 3 hlt (by omega)
      have x4 : wr.cell? ⟨w.heap.size, j * 5 + 4, none⟩ = some (.int .i64 (insL.getD j ⟨0, 0, 0, 0, 0⟩).n) := by rw [cell_of_row _ _ _ _ _ _ hd.out.row, List.getElem?_toArray]; exact insCells_get j 4 hlt (by omega)
      have HE : Hid (∀ w', Below w.heap.size w w' → Calls Tryd.prog 40 #[instV (insL.getD j ⟨0, 0, 0, 0, 0⟩).o (insL.getD j ⟨0, 0, 0, 0, 0⟩).d (insL.getD j ⟨0, 0, 0, 0, 0⟩).a (insL.getD j ⟨0, 0, 0, 0, 0⟩).b (insL.getD j ⟨0, 0, 0, 0, 0⟩).n] w' fun e w'' => e = .returned (.tuple #[.int .u32 (wordL.getD j 0), .nilIface]) ∧ Below w'.heap.size w' w'') := fun w' hb => by
        rw [wordL_get j hlt]
        exact encode_ok _ _ _ _ _ w' (HT.out.below hb) (insL_rt j hlt)
      have HTK := take_wordL j hlt
      have HTK' : Hid (wordL.take (j + 1) = wordL.take j ++ [wordL.getD j 0]) := HTK
      clear HTK
      generalize wordL.getD j 0 = x at *
      generalize insL.getD j ⟨0, 0, 0, 0, 0⟩ = ii at *
      obtain ⟨o, d, a, b, n⟩ := ii
      simp only at x0 x1 x2 x3 x4 HE
      have hlw : w.heap.size < wr.heap.size := block_lt_of_cell x0
      go_wp2_with (go_at_call 40; fail)
      have BA : Hid (Below w.heap.size w (wr.alloc (.cells #[.int .i64 o, .int .i64 d, .int .i64 a, .int .i64 b, .int .i64 n] 71))) := hd.out.bel.alloc (by omega) _
      refine (HE.out _ BA.out).mono ?_
      rintro e w5 ⟨rfl, hb⟩
      have l5 : wr.heap.size < w5.heap.size := by have := hb.size; simp at this; omega
      have HOW : Hid (w5.ownsRow w.heap.size 54 1 (.slice q j c) j (u32L (wordL.take j))) := ownsRow_block (World.ownsRow.alloc hd.out.own _) fun k hk => hb.block k (by have := (hd.out.own.lt k hk).2; simp; omega)
      have HB5 : Hid (Below w.heap.size w w5) := BA.out.trans (hb.mono (by simp; omega))
      have HR5 : Hid (w5.heap[w.heap.size]? = some (.cells insCells.toArray 71)) := by
        show _ = _
        rw [hb.block _ (by simp; omega), Below.heap_alloc _ _ _ hlw]; exact hd.out.row
      have HNE : Hid ((Value.slice q j c).ownBlock ≠ some w.heap.size) := hd.out.ne
      clear hb BA x0 x1 x2 x3 x4 hd
      go_wp2_with (at_builtin; refine wpList_append_lies _ rfl _ _ 22 rfl w.heap.size 54 i0 (.int .u32 0) 1 4 Tryd.underlying22 hi0 hi1 hi2 hi3 rfl (by decide) (.slice q j c) j (u32L (wordL.take j)) rfl (HOW.out.alloc _) ⟨w5.heap.size, 0, none⟩ 1 1 [.int .u32 x] rfl rfl (World.news_of_block (cs := #[.int .u32 x]) (t := 54) (fr := (0, 0)) (heap_alloc_last w5 _)) (fun u hu => by simp at hu; subst hu; rfl) (by omega) (by unfold maxLen; omega) (by omega) (by simp; omega) _ rfl ?_; intro g cap w7 hown hgrow hat hlt7; have HX : Hid (World.ownsRow _ _ _ _ _ _ _) := hown; have HA : Hid (_ ∨ _) := hat; have HG : Hid (World.grownBy _ _ _) := hgrow; clear hown hat hgrow hlt7)
      refine ⟨⟨j + 1, by omega, by go_num, ?_⟩, by simp [intOf]; omega⟩
      refine ⟨?_, ?_, ?_, ?_⟩
      · rw [HTK'.out]; simpa [u32L] using HX.out
      · exact (HB5.out.alloc (by omega) _).grown HG.out (by simp; omega) (fun k e => (HOW.out.lt k e).1)
      · rw [HG.out.block _ (by simp; omega) (fun e => HNE.out e.symm), Below.heap_alloc _ _ _ (by omega)]; exact HR5.out
      · intro e
        have e' : g = w.heap.size := by simpa [Value.ownBlock] using e
        rcases HA.out with h | h
        · rw [e'] at h; exact HNE.out h
        · simp at h; omega
    · obtain rfl : j = 6 := by omega
      obtain ⟨g, cap, hv, hg, hgl⟩ := hd.out.own.form (by omega)
      subst hv
      have HNEW : Hid (Calls Tryd.prog 7 #[.slice (some ⟨g, 0, none⟩) 6 cap, .int .i64 64, .slice none 0 0] wr fun e w' => ∃ s, e = .returned (.tuple #[.pointer (some ⟨s, 0, none⟩), .nilIface]) ∧ ∃ mb gv, Mac w' wr.heap.size s mb 64 (newV 64 wordL []) gv (.slice none 0 0) ∧ Below wr.heap.size wr w' ∧ ∀ k, gv.ownBlock = some k → wr.heap.size ≤ k ∧ k < s) := by
        refine new_core wr g 0 cap wordL 64 (.slice none 0 0) [] (by omega) (by omega) (by decide) (by decide) ⟨?_, fun j hj => ?_, fun j hj => wordL_rng j hj⟩ (.inl ⟨rfl, rfl⟩) (by simp) (by omega)
        · rcases hd.out.own.2 with ⟨h1, _⟩ | ⟨g', cap', cur, hv', _, _, h3, _⟩
          · cases h1
          · simp at hv'
            rw [hv'.2]
            exact h3
        · have hj6 : j < 6 := hj
          have := hd.out.own.cells (g := g) rfl j (.int .u32 (wordL.getD j 0)) (by
            have h1 : j = 0 ∨ j = 1 ∨ j = 2 ∨ j = 3 ∨ j = 4 ∨ j = 5 := by omega
            rcases h1 with rfl | rfl | rfl | rfl | rfl | rfl <;> rfl)
          have e : (⟨g, 0, none⟩ : Addr).add j = ⟨g, j, none⟩ := by unfold Addr.add; split <;> simp_all
          rw [e] at this
          rw [Nat.zero_add]
          exact this
      have HTR : Hid (Tabs T wr) := HT.out.below hd.out.bel
      have HBR : Hid (Below w.heap.size w wr) := hd.out.bel
      have hzr : w.heap.size ≤ wr.heap.size := hd.out.bel.size
      clear hd
      go_wp2_with (go_at_call 7; fail)
      refine HNEW.out.mono ?_
      rintro e w8 ⟨s, rfl, mb, gv, hm, hb8, -⟩
      have HB8 : Hid (Below wr.heap.size wr w8) := hb8
      have HRUN : Hid (Calls Tryd.prog 17 #[.pointer (some ⟨s, 0, none⟩), .int .i64 100] w8 fun e w' => ∃ C v', e = .returned (.agg #[.int .i64 1, .int .i64 C, v']) ∧ w'.ownsRow w8.heap.size 2 1 v' 1 [.int .i64 5] ∧ w'.cell? ⟨s, 33, none⟩ = some (.int .i64 20) ∧ Below wr.heap.size w8 w') := drive_run w8 _ s mb gv _ hm (HTR.out.below hb8)
      clear hm hb8
      go_wp2_with (go_at_call 17; fail)
      refine HRUN.out.mono ?_
      rintro e w9 ⟨C, v', rfl, hown, hpc, hb9⟩
      obtain ⟨q', c', hv'⟩ := own_form' hown
      subst hv'
      have HB9 : Hid (Below w.heap.size w w9) := HBR.out.trans ((HB8.out.trans hb9).mono hzr)
      have hsz9 : w.heap.size ≤ w9.heap.size := by have := HB9.out.size; omega
      have HEQ : Hid (∀ w', Below w9.heap.size w9 w' → ∀ v2, Rd w' v2 [5] → Calls Tryd.prog 21 #[.slice q' 1 c', v2] w' fun e w'' => e = .returned (.bool true) ∧ Below w'.heap.size w' w'') := fun w' hb v2 h2 =>
        equal_same w' _ v2 [5] ((Rd.of_own (l := [5]) hown).below hb) h2 (by simp)
      have HPC : Hid (∀ w', Below w9.heap.size w9 w' → Calls Tryd.prog 22 #[.pointer (some ⟨s, 0, none⟩)] w' fun e w'' => e = .returned (.int .i64 20) ∧ w'' = w') := fun w' hb => pc_any w' s 20 (by rw [hb.cell (block_lt_of_cell hpc)]; exact hpc)
      clear hown hpc hb9
      have BQ : Hid (Below w9.heap.size w9 ((w9.alloc (.cells #[.int .i64 1, .int .i64 C, .slice q' 1 c'] 44)).alloc (.cells #[.int .i64 5] 2))) := ((Below.refl _ _).alloc (Nat.le_refl _) _).alloc (by simp) _
      have RQ : Hid (Rd ((w9.alloc (.cells #[.int .i64 1, .int .i64 C, .slice q' 1 c'] 44)).alloc (.cells #[.int .i64 5] 2)) (.slice (some ⟨w9.heap.size + 1, 0, none⟩) 1 1) [5]) := by
        refine ⟨_, _, rfl, fun _ => ⟨w9.heap.size + 1, 0, rfl, fun j hj => ?_⟩⟩
        obtain rfl : j = 0 := by simpa using hj
        rw [cell_of_row _ _ _ _ _ _ (heap_alloc2_new w9 _ _)]; rfl
      go_wp2_with (first
        | (go_at_call 21; refine (HEQ.out _ BQ.out _ RQ.out).mono ?_; rintro e w10 ⟨rfl, hb10⟩; have HB10 : Hid (Below _ _ w10) := hb10; clear hb10)
        | (go_at_call 22; refine (HPC.out _ (BQ.out.trans (HB10.out.mono (by simp; omega)))).mono ?_; rintro e w11 ⟨rfl, rfl⟩))
      go_ret
      exact ⟨rfl, HB9.out.trans ((BQ.out.trans (HB10.out.mono (by simp; omega))).mono hsz9)⟩
end Go.Proofs.YtaodcpdkobhmfaaDoor

namespace Go.Proofs.YtaodcpdkobhmfaaDoor
open Go Go.RowKit

theorem gth_lay8 (M : Nat → Int) (a : Nat) (v : Int) (h0 : 0 ≤ v) (h1 : v < 18446744073709551616) : gthTo (layTo M a v 8) a 8 = v := by
  rw [gth8]
  have e0 := layTo_in M a v 8 0 (by omega)
  have e1 := layTo_in M a v 8 1 (by omega)
  have e2 := layTo_in M a v 8 2 (by omega)
  have e3 := layTo_in M a v 8 3 (by omega)
  have e4 := layTo_in M a v 8 4 (by omega)
  have e5 := layTo_in M a v 8 5 (by omega)
  have e6 := layTo_in M a v 8 6 (by omega)
  have e7 := layTo_in M a v 8 7 (by omega)
  simp at e0 e1 e2 e3 e4 e5 e6 e7
  rw [e0, e1, e2, e3, e4, e5, e6, e7]
  clear e0 e1 e2 e3 e4 e5 e6 e7
  omega
theorem gth_lay8_out (M : Nat → Int) (a b : Nat) (v : Int) (h : b + 8 ≤ a ∨ a + 8 ≤ b) : gthTo (layTo M a v 8) b 8 = gthTo M b 8 := by
  rw [gth8, gth8]
  rw [layTo_out _ _ _ _ _ (by omega), layTo_out _ _ _ _ _ (by omega), layTo_out _ _ _ _ _ (by omega), layTo_out _ _ _ _ _ (by omega), layTo_out _ _ _ _ _ (by omega), layTo_out _ _ _ _ _ (by omega), layTo_out _ _ _ _ _ (by omega), layTo_out _ _ _ _ _ (by omega)]

/-- The number that is there. -/
def ldV (M : Nat → Int) (i : Nat) : Int := wrap64 (gthTo M i 8)
theorem ld_in (M : Nat → Int) (a : Nat) (v : Int) (h0 : -9223372036854775808 ≤ v) (h1 : v ≤ 9223372036854775807) : ldV (layTo M a (v % 18446744073709551616) 8) a = v := by
  unfold ldV
  rw [gth_lay8 _ _ _ (by omega) (by omega)]
  unfold wrap64
  omega
theorem ld_out (M : Nat → Int) (a b : Nat) (v : Int) (h : b + 8 ≤ a ∨ a + 8 ≤ b) : ldV (layTo M a v 8) b = ldV M b := by
  unfold ldV; rw [gth_lay8_out _ _ _ _ h]
theorem ld_first : ldV (layW [1, 2] 2) 0 = 8589934593 := by
  unfold ldV; rw [gth8]; simp [layW, layTo, wrap64]
theorem layW12 (j : Nat) (h : 8 ≤ j) : layW [1, 2] 2 j = 0 := by
  simp only [layW]
  rw [layTo_out _ _ _ _ _ (by omega), layTo_out _ _ _ _ _ (by omega)]
theorem ld_rest (i : Nat) (h : 8 ≤ i) : ldV (layW [1, 2] 2) i = 0 := by
  unfold ldV; rw [gth8]
  rw [layW12 _ h, layW12 _ (by omega), layW12 _ (by omega), layW12 _ (by omega), layW12 _ (by omega), layW12 _ (by omega), layW12 _ (by omega), layW12 _ (by omega)]
  simp [wrap64]

def pickV (a n : Int) : Int := a % 18446744073709551616 % n
theorem pick_gen (a n : Int) (w : World) (h0 : 0 < n) (h1 : n ≤ 1000000) :
    Calls Tryd.prog 20 #[.int .i64 a, .int .i64 n] w fun e w' => e = .returned (.int .i64 (pickV a n)) ∧ w' = w := by
  have hu := Alu.u64_wrap a
  have hm0 : 0 ≤ a % 18446744073709551616 % n := Int.emod_nonneg _ (by omega)
  have hm1 : a % 18446744073709551616 % n < n := Int.emod_lt_of_pos _ h0
  have HP : Hid (pickV a n = a % 18446744073709551616 % n) := rfl
  have ha0 : 0 ≤ a % 18446744073709551616 := by omega
  generalize a % 18446744073709551616 = x at *
  go_enter Tryd.func20, Tryd.ntmps20
  go_wp2
  go_ret
  exact ⟨ret_int (by rw [HP.out]; try rw [Int.tmod_eq_emod_of_nonneg ha0]), rfl⟩
end Go.Proofs.YtaodcpdkobhmfaaDoor

namespace Go.Proofs.YtaodcpdkobhmfaaDoor
open Go Go.RowKit

/-- The machine of two words, and what its calls tell. -/
structure KpC (W : World) (s mb L : Nat) (m : MS) (gv ov : Value) : Prop where
  core : Core W s mb L m gv ov
  L8 : 8 ≤ L
  mod : L % 8 = 0

theorem kp_load {W : World} {s mb L : Nat} {m : MS} {gv ov : Value} (h : KpC W s mb L m gv ov) (j : Nat) (hj : 8 * j < L) (x : Int) (hx : ldV m.M (8 * j) = x) :
    Calls Tryd.prog 13 #[.pointer (some ⟨s, 0, none⟩), .int .i64 (8 * (j : Int))] W fun e w' => e = .returned (.tuple #[.int .i64 x, .nilIface]) ∧ w' = W := by
  have hm := h.mod
  have := load_yes W s mb L m gv ov (8 * (j : Int)) h.core (by simp [hasB]; omega)
  rw [show (8 * (j : Int)).toNat = 8 * j by omega] at this
  rw [← hx]
  exact this

/-- New, of the two words. -/
theorem kp_new (w : World) (L : Nat) (h0 : 8 ≤ L) (h1 : L ≤ 65536) (h2 : L % 8 = 0) (hw1 : 1 < w.heap.size) :
    Calls Tryd.prog 7 #[.slice (some ⟨w.heap.size, 0, none⟩) 2 2, .int .i64 (L : Int), .slice none 0 0] (w.alloc (.cells #[.int .u32 1, .int .u32 2] 54)) fun e w' => ∃ s, e = .returned (.tuple #[.pointer (some ⟨s, 0, none⟩), .nilIface]) ∧ ∃ mb gv, KpC w' s mb L (newV L [1, 2] []) gv (.slice none 0 0) ∧ Below w.heap.size w w' ∧ w.heap.size ≤ mb := by
  refine (new_core (w.alloc (.cells #[.int .u32 1, .int .u32 2] 54)) w.heap.size 0 2 [1, 2] L (.slice none 0 0) [] h0 h1 (by omega) (by simpa using h0) ⟨by simp, fun j hj => ?_, fun j hj => ?_⟩ (.inl ⟨rfl, rfl⟩) (by simp) (by simp; omega)).mono ?_
  · have : j = 0 ∨ j = 1 := by simp at hj; omega
    rcases this with rfl | rfl
    · rw [cell_of_row _ _ _ _ _ _ (heap_alloc_last w _)]; rfl
    · rw [cell_of_row _ _ _ _ _ _ (heap_alloc_last w _)]; rfl
  · have : j = 0 ∨ j = 1 := by simp at hj; omega
    rcases this with rfl | rfl
    · exact ⟨by decide, by decide⟩
    · exact ⟨by decide, by decide⟩
  · rintro e w' ⟨s, rfl, mb, gv, hm, hb, _⟩
    have hbm := hm.Bm
    simp at hbm
    exact ⟨s, rfl, mb, gv, ⟨hm.core, h0, h2⟩, ((Below.refl _ _).alloc (Nat.le_refl _) _).trans (hb.mono (by simp)), by omega⟩

end Go.Proofs.YtaodcpdkobhmfaaDoor
