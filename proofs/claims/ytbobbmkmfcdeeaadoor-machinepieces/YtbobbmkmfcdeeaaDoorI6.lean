/- A machine that tells 5, as plain mathematics. -/
import Derived.Test.YtbobbmkmfcdeeaaDoorI3
import Derived.Test.YtbobbmkmfcdeeaaDoorI4
namespace Go.Proofs.YtbobbmkmfcdeeaaDoor
open Go Go.RowKit

theorem gth4 (M : Nat → Int) (a : Nat) : gthTo M a 4 = M a + M (a + 1) * 256 + M (a + 2) * 65536 + M (a + 3) * 16777216 := by
  simp [gthTo]
theorem gth8 (M : Nat → Int) (a : Nat) : gthTo M a 8 = M a + M (a + 1) * 256 + M (a + 2) * 65536 + M (a + 3) * 16777216 + M (a + 4) * 4294967296 + M (a + 5) * 1099511627776 + M (a + 6) * 281474976710656 + M (a + 7) * 72057594037927936 := by
  simp [gthTo]

theorem layTo_in (M : Nat → Int) (a : Nat) (v : Int) (k i : Nat) (h : i < k) : layTo M a v k (a + i) = v / 256 ^ i % 256 := by
  unfold layTo; rw [if_pos (by omega)]; congr; omega
theorem layTo_out (M : Nat → Int) (a : Nat) (v : Int) (k j : Nat) (h : j < a ∨ a + k ≤ j) : layTo M a v k j = M j := by
  unfold layTo; rw [if_neg (by omega)]

theorem gth_lay4 (M : Nat → Int) (a : Nat) (v : Int) (h0 : 0 ≤ v) (h1 : v < 4294967296) : gthTo (layTo M a v 4) a 4 = v := by
  rw [gth4]
  have e0 := layTo_in M a v 4 0 (by omega)
  have e1 := layTo_in M a v 4 1 (by omega)
  have e2 := layTo_in M a v 4 2 (by omega)
  have e3 := layTo_in M a v 4 3 (by omega)
  simp at e0 e1 e2 e3
  rw [e0, e1, e2, e3]
  omega
theorem gth_lay4_out (M : Nat → Int) (a b : Nat) (v : Int) (h : b + 4 ≤ a ∨ a + 4 ≤ b) : gthTo (layTo M a v 4) b 4 = gthTo M b 4 := by
  rw [gth4, gth4]
  rw [layTo_out _ _ _ _ _ (by omega), layTo_out _ _ _ _ _ (by omega), layTo_out _ _ _ _ _ (by omega), layTo_out _ _ _ _ _ (by omega)]

theorem gth_layW (ws : List Int) (n j : Nat) (hj : j < n) (h : 0 ≤ ws.getD j 0 ∧ ws.getD j 0 < 4294967296) : gthTo (layW ws n) (4 * j) 4 = ws.getD j 0 := by
  induction n with
  | zero => omega
  | succ n ih =>
    simp only [layW]
    by_cases e : j = n
    · subst e; exact gth_lay4 _ _ _ h.1 h.2
    · rw [gth_lay4_out _ _ _ _ (by omega)]; exact ih (by omega)

theorem has4 (L j : Nat) (h : 4 * j + 4 ≤ L) : hasB L ((4 * j : Nat) : Int) 4 = true := by
  simp [hasB]; omega

/-- What is fetched of words that were laid. -/
theorem fet_layW (ws : List Int) (L j : Nat) (i : In) (hj : j < ws.length) (hL : 4 * ws.length ≤ L) (hi : i.rt = true) (hw : ws.getD j 0 = i.wd) : fetV L (layW ws ws.length) ((4 * j : Nat) : Int) = some i := by
  unfold fetV
  rw [if_pos (has4 L j (by omega)), Int.toNat_natCast, gth_layW ws _ j hj (by rw [hw]; exact Wd_range _ _ _ _ _ hi), hw]
  exact decV_wd i hi

theorem step_eq {L : Nat} {m m' : MS} {i : In} {z : Int} (h0 : m.way = 0) (hf : fetV L m.M m.pc = some i) (hd : doV L m i = (m', z)) (hw : m'.way = 0) : stepV L m = { m' with pc := z } := by
  unfold stepV
  rw [if_pos h0, hf]
  dsimp only
  rw [hd]
  dsimp only
  rw [if_pos hw]
theorem step_eq_end {L : Nat} {m m' : MS} {i : In} {z : Int} (h0 : m.way = 0) (hf : fetV L m.M m.pc = some i) (hd : doV L m i = (m', z)) (hw : m'.way ≠ 0) : stepV L m = m' := by
  unfold stepV
  rw [if_pos h0, hf]
  dsimp only
  rw [hd]
  dsimp only
  rw [if_neg hw]

def insL : List In := [⟨14, 10, 0, 0, 5⟩, ⟨14, 17, 0, 0, 1⟩, ⟨31, 0, 0, 0, 0⟩, ⟨14, 10, 0, 0, 1⟩, ⟨14, 17, 0, 0, 3⟩, ⟨31, 0, 0, 0, 0⟩]
def wordL : List Int := insL.map In.wd
theorem insL_rt (j : Nat) (h : j < 6) : (insL.getD j ⟨0, 0, 0, 0, 0⟩).rt = true := by
  have : j = 0 ∨ j = 1 ∨ j = 2 ∨ j = 3 ∨ j = 4 ∨ j = 5 := by omega
  rcases this with rfl | rfl | rfl | rfl | rfl | rfl <;> decide
theorem wordL_get (j : Nat) (h : j < 6) : wordL.getD j 0 = (insL.getD j ⟨0, 0, 0, 0, 0⟩).wd := by
  have : j = 0 ∨ j = 1 ∨ j = 2 ∨ j = 3 ∨ j = 4 ∨ j = 5 := by omega
  rcases this with rfl | rfl | rfl | rfl | rfl | rfl <;> rfl

theorem addi_eq {L : Nat} {m : MS} {d n : Int} (hd : d ≠ 0) (hr : m.R 0 = 0) (h0 : -2048 ≤ n) (h1 : n ≤ 2047) : doV L m ⟨14, d, 0, 0, n⟩ = ({ m with R := upd m.R d.toNat n }, wrap64 (m.pc + 4)) := by
  unfold doV
  rw [if_neg (by simp), if_pos (by simp)]
  simp only [writeV, if_neg hd, Int.toNat_zero, hr]
  have : Alu.aluV 14 0 n = n := by
    unfold Alu.aluV; rw [if_pos (by simp)]; unfold wrap64; omega
  rw [this]

theorem ecall_eq {L : Nat} {m : MS} : doV L m ⟨31, 0, 0, 0, 0⟩ = (callV m, wrap64 (m.pc + 4)) := by
  unfold doV; simp

theorem fet_ins (j : Nat) (h : j < 6) : fetV 64 (layW wordL 6) ((4 * j : Nat) : Int) = some (insL.getD j ⟨0, 0, 0, 0, 0⟩) :=
  fet_layW wordL 64 j _ h (by decide) (insL_rt j h) (wordL_get j h)

abbrev dS (R : Nat → Int) (pc way : Int) (out : List Int) : MS := ⟨R, layW wordL 6, pc, [], way, 0, out⟩
abbrev dR : Nat → Int := upd (fun _ => 0) 2 64

theorem dAddi (R : Nat → Int) (j : Nat) (out : List Int) (d n pc pc' : Int) (k : Nat) (hj : j < 6) (hi : insL.getD j ⟨0, 0, 0, 0, 0⟩ = ⟨14, d, 0, 0, n⟩) (hd : d ≠ 0) (hr : R 0 = 0) (h0 : -2048 ≤ n) (h1 : n ≤ 2047) (hp : ((4 * j : Nat) : Int) = pc) (hq : wrap64 (pc + 4) = pc') (hk : d.toNat = k) :
    stepV 64 (dS R pc 0 out) = dS (upd R k n) pc' 0 out := by
  subst hp hq hk
  have hf := fet_ins j hj
  rw [hi] at hf
  have hd' := addi_eq (L := 64) (m := dS R ((4 * j : Nat) : Int) 0 out) (d := d) (n := n) hd hr h0 h1
  rw [step_eq (m := dS R ((4 * j : Nat) : Int) 0 out) rfl hf hd' rfl]
theorem dCall (R : Nat → Int) (j : Nat) (out out' : List Int) (pc pc' : Int) (hj : j < 6) (hi : insL.getD j ⟨0, 0, 0, 0, 0⟩ = ⟨31, 0, 0, 0, 0⟩) (hm : callV (dS R pc 0 out) = dS R pc 0 out') (hp : ((4 * j : Nat) : Int) = pc) (hq : wrap64 (pc + 4) = pc') :
    stepV 64 (dS R pc 0 out) = dS R pc' 0 out' := by
  subst hp hq
  have hf := fet_ins j hj
  rw [hi] at hf
  have hd' := ecall_eq (L := 64) (m := dS R ((4 * j : Nat) : Int) 0 out)
  rw [hm] at hd'
  rw [step_eq (m := dS R ((4 * j : Nat) : Int) 0 out) rfl hf hd' rfl]
theorem dEnd (R : Nat → Int) (j : Nat) (out : List Int) (m' : MS) (pc : Int) (hj : j < 6) (hi : insL.getD j ⟨0, 0, 0, 0, 0⟩ = ⟨31, 0, 0, 0, 0⟩) (hm : callV (dS R pc 0 out) = m') (hw : m'.way ≠ 0) (hp : ((4 * j : Nat) : Int) = pc) :
    stepV 64 (dS R pc 0 out) = m' := by
  subst hp
  have hf := fet_ins j hj
  rw [hi] at hf
  have hd' := ecall_eq (L := 64) (m := dS R ((4 * j : Nat) : Int) 0 out)
  rw [hm] at hd'
  rw [step_eq_end (m := dS R ((4 * j : Nat) : Int) 0 out) rfl hf hd' hw]

theorem drive : (runV 64 100 (newV 64 wordL [])).way = 1 ∧ (runV 64 100 (newV 64 wordL [])).out = [5] ∧ (runV 64 100 (newV 64 wordL [])).pc = 20 := by
  have e0 : newV 64 wordL [] = dS dR 0 0 [] := rfl
  have e1 : stepV 64 (dS dR 0 0 []) = dS (upd dR 10 5) 4 0 [] := dAddi dR 0 [] 10 5 0 4 10 (by omega) rfl (by omega) rfl (by omega) (by omega) rfl (by unfold wrap64; omega) rfl
  have e2 : stepV 64 (dS (upd dR 10 5) 4 0 []) = dS (upd (upd dR 10 5) 17 1) 8 0 [] := dAddi (upd dR 10 5) 1 [] 17 1 4 8 17 (by omega) rfl (by omega) rfl (by omega) (by omega) rfl (by unfold wrap64; omega) rfl
  have e3 : stepV 64 (dS (upd (upd dR 10 5) 17 1) 8 0 []) = dS (upd (upd dR 10 5) 17 1) 12 0 [5] := dCall (upd (upd dR 10 5) 17 1) 2 [] [5] 8 12 (by omega) rfl rfl rfl (by unfold wrap64; omega)
  have e4 : stepV 64 (dS (upd (upd dR 10 5) 17 1) 12 0 [5]) = dS (upd (upd (upd dR 10 5) 17 1) 10 1) 16 0 [5] := dAddi (upd (upd dR 10 5) 17 1) 3 [5] 10 1 12 16 10 (by omega) rfl (by omega) rfl (by omega) (by omega) rfl (by unfold wrap64; omega) rfl
  have e5 : stepV 64 (dS (upd (upd (upd dR 10 5) 17 1) 10 1) 16 0 [5]) = dS (upd (upd (upd (upd dR 10 5) 17 1) 10 1) 17 3) 20 0 [5] := dAddi (upd (upd (upd dR 10 5) 17 1) 10 1) 4 [5] 17 3 16 20 17 (by omega) rfl (by omega) rfl (by omega) (by omega) rfl (by unfold wrap64; omega) rfl
  have e6 : stepV 64 (dS (upd (upd (upd (upd dR 10 5) 17 1) 10 1) 17 3) 20 0 [5]) = dS (upd (upd (upd (upd dR 10 5) 17 1) 10 1) 17 3) 20 1 [5] := dEnd (upd (upd (upd (upd dR 10 5) 17 1) 10 1) 17 3) 5 [5] _ 20 (by omega) rfl rfl (by simp) rfl
  rw [show (100 : Nat) = 6 + 94 by rfl, runV_add, e0]
  have h6 : runV 64 6 (dS dR 0 0 []) = dS (upd (upd (upd (upd dR 10 5) 17 1) 10 1) 17 3) 20 1 [5] := by
    simp only [runV]
    rw [e1, e2, e3, e4, e5, e6]
  rw [h6, runV_ended (by simp)]
  exact ⟨rfl, rfl, rfl⟩
end Go.Proofs.YtbobbmkmfcdeeaaDoor
