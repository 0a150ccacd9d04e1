/- Plain facts: the words of each kind, as sums of their fields. -/
import Derived.Test.YtchankbdfkgdiaaDoorK2
namespace Go.Proofs.YtchankbdfkgdiaaDoor
open Go Go.RowKit

theorem within_le {x A : Nat} (h : Within x A) : x ≤ A := by
  rw [← show x &&& A = x from h]; exact Nat.and_le_right
/-- The piece of n of c bits from bit f on. -/
def pc (n : Int) (f c : Nat) : Nat := (n / (2 : Int) ^ f % (2 : Int) ^ c).toNat
theorem pc0 (n : Int) : pc n 0 0 = 0 := by simp [pc, Int.emod_one]
theorem pc_lt (n : Int) (f c : Nat) : pc n f c < 2 ^ c := by
  have hp1 : 0 < (2 : Int) ^ c := by exact_mod_cast (Nat.two_pow_pos c)
  have h1 : 0 ≤ n / (2 : Int) ^ f % (2 : Int) ^ c := Int.emod_nonneg _ (by omega)
  have h2 : n / (2 : Int) ^ f % (2 : Int) ^ c < (2 : Int) ^ c := Int.emod_lt_of_pos _ hp1
  have : ((2 ^ c : Nat) : Int) = (2 : Int) ^ c := by simp
  unfold pc
  omega

theorem enc3 {l m h d a b n : Int} {s : Sh} {ob rg sp A B C : Nat} (e1 : obV l m h = (ob : Int)) (e2 : regsV d a b = (rg : Int)) (e3 : spreadV n s = (sp : Int)) (w1 : Within ob A) (w2 : Within rg B) (w3 : Within sp C)
    (hA : A < 4294967296) (hB : B < 4294967296) (hC : C < 4294967296) (h1 : A &&& B = 0) (h2 : (A ||| B) &&& C = 0) : encV l m h d a b n s = ((ob + rg + sp : Nat) : Int) := by
  have b1 := within_le w1
  have b2 := within_le w2
  have b3 := within_le w3
  have o1 := or_add w1 w2 h1
  have ww := w1.or w2
  have o2 := or_add ww w3 h2
  unfold encV
  rw [e1, e2, e3, orN _ _ (by omega) (by omega), orN _ _ (or_lt32 (by omega) (by omega)) (by omega), o2, o1]

theorem ob1 (l : Nat) (hl : l < 128) : obV l 0 0 = (l : Int) ∧ Within l 127 := by
  have h := obV_eq l 0 0 hl (by omega) (by omega)
  have w0 : Within (l * 2 ^ 0) 127 := within_field l 7 0 hl
  exact ⟨by simpa using h.1, by simpa using w0⟩
theorem ob2 (l m : Nat) (hl : l < 128) (hm : m < 8) : obV l m 0 = ((l + m * 4096 : Nat) : Int) ∧ Within (l + m * 4096) 28799 := by
  have h := obV_eq l m 0 hl hm (by omega)
  have w0 : Within (l * 2 ^ 0) 127 := within_field l 7 0 hl
  simp only [Nat.pow_zero, Nat.mul_one] at w0
  obtain ⟨e1, w1⟩ := or_step (v := m) (c := 3) (t := 12) w0 hm (by decide)
  exact ⟨by simpa using h.1, w1⟩
theorem obH (l m q : Nat) (hl : l < 128) (hm : m < 8) (hq : q < 64) : obV l m ((2 * q : Nat) : Int) = ((l + m * 4096 + q * 67108864 : Nat) : Int) ∧ Within (l + m * 4096 + q * 67108864) 4227887231 := by
  have h := obV_eq l m (2 * q) hl hm (by omega)
  obtain ⟨e1, w1⟩ := or_step (v := q) (c := 6) (t := 26) (ob2 l m hl hm).2 hq (by decide)
  refine ⟨?_, w1⟩
  rw [h.1]
  omega
theorem rg_d (d : Nat) (hd : d < 32) : regsV d 0 0 = ((d * 128 : Nat) : Int) ∧ Within (d * 128) 3968 := by
  have h := regsV_eq d 0 0 hd (by omega) (by omega)
  exact ⟨by simpa using h, within_field d 5 7 hd⟩
theorem rg_da (d a : Nat) (hd : d < 32) (ha : a < 32) : regsV d a 0 = ((d * 128 + a * 32768 : Nat) : Int) ∧ Within (d * 128 + a * 32768) 1019776 := by
  have h := regsV_eq d a 0 hd ha (by omega)
  obtain ⟨e1, w1⟩ := or_step (v := a) (c := 5) (t := 15) (rg_d d hd).2 ha (by decide)
  exact ⟨by simpa using h, w1⟩
theorem rg_dab (d a b : Nat) (hd : d < 32) (ha : a < 32) (hb : b < 32) : regsV d a b = ((d * 128 + a * 32768 + b * 1048576 : Nat) : Int) ∧ Within (d * 128 + a * 32768 + b * 1048576) 33525632 := by
  obtain ⟨e1, w1⟩ := or_step (v := b) (c := 5) (t := 20) (rg_da d a hd ha).2 hb (by decide)
  exact ⟨regsV_eq d a b hd ha hb, w1⟩
theorem rg_ab (a b : Nat) (ha : a < 32) (hb : b < 32) : regsV 0 a b = ((a * 32768 + b * 1048576 : Nat) : Int) ∧ Within (a * 32768 + b * 1048576) 33521664 := by
  have h := regsV_eq 0 a b (by omega) ha hb
  have w0 : Within (a * 2 ^ 15) 1015808 := within_field a 5 15 ha
  obtain ⟨e1, w1⟩ := or_step (v := b) (c := 5) (t := 20) w0 hb (by decide)
  exact ⟨by simpa using h, w1⟩
theorem sp0 (n : Int) : spreadV n sh0 = ((0 : Nat) : Int) ∧ Within (0) 0 := by
  have w0 : Within 0 0 := rfl
  have b0 := within_le w0
  have r0 := spr_eq n (0) 0 0 0 0 (by omega) (by omega) w0 (by omega) (by decide)
  have w1 : Within (0 + pc n 0 0 * 1) 0 := r0.2.1
  have q0 : spr n ((0 : Nat) : Int) 1 1 1 = ((0 + pc n 0 0 * 1 : Nat) : Int) := r0.1
  have b1 := within_le w1
  have r1 := spr_eq n (0 + pc n 0 0 * 1) 0 0 0 0 (by omega) (by omega) w1 (by omega) (by decide)
  have w2 : Within (0 + pc n 0 0 * 1 + pc n 0 0 * 1) 0 := r1.2.1
  have q1 : spr n ((0 + pc n 0 0 * 1 : Nat) : Int) 1 1 1 = ((0 + pc n 0 0 * 1 + pc n 0 0 * 1 : Nat) : Int) := r1.1
  have b2 := within_le w2
  have r2 := spr_eq n (0 + pc n 0 0 * 1 + pc n 0 0 * 1) 0 0 0 0 (by omega) (by omega) w2 (by omega) (by decide)
  have w3 : Within (0 + pc n 0 0 * 1 + pc n 0 0 * 1 + pc n 0 0 * 1) 0 := r2.2.1
  have q2 : spr n ((0 + pc n 0 0 * 1 + pc n 0 0 * 1 : Nat) : Int) 1 1 1 = ((0 + pc n 0 0 * 1 + pc n 0 0 * 1 + pc n 0 0 * 1 : Nat) : Int) := r2.1
  have b3 := within_le w3
  have r3 := spr_eq n (0 + pc n 0 0 * 1 + pc n 0 0 * 1 + pc n 0 0 * 1) 0 0 0 0 (by omega) (by omega) w3 (by omega) (by decide)
  have w4 : Within (0 + pc n 0 0 * 1 + pc n 0 0 * 1 + pc n 0 0 * 1 + pc n 0 0 * 1) 0 := r3.2.1
  have q3 : spr n ((0 + pc n 0 0 * 1 + pc n 0 0 * 1 + pc n 0 0 * 1 : Nat) : Int) 1 1 1 = ((0 + pc n 0 0 * 1 + pc n 0 0 * 1 + pc n 0 0 * 1 + pc n 0 0 * 1 : Nat) : Int) := r3.1
  have e : spreadV n sh0 = ((0 + pc n 0 0 * 1 + pc n 0 0 * 1 + pc n 0 0 * 1 + pc n 0 0 * 1 : Nat) : Int) := by
    rw [← q3, ← q2, ← q1, ← q0]
    rfl
  have z : 0 + pc n 0 0 * 1 + pc n 0 0 * 1 + pc n 0 0 * 1 + pc n 0 0 * 1 = 0 := by
    have := pc0 n
    omega
  rw [z] at e w4
  exact ⟨e, w4⟩
theorem sp1 (n : Int) : spreadV n sh1 = ((pc n 0 12 * 1048576 : Nat) : Int) ∧ Within (pc n 0 12 * 1048576) 4293918720 := by
  have w0 : Within 0 0 := rfl
  have b0 := within_le w0
  have r0 := spr_eq n (0) 0 20 12 0 (by omega) (by omega) w0 (by omega) (by decide)
  have w1 : Within (0 + pc n 0 12 * 1048576) 4293918720 := r0.2.1
  have q0 : spr n ((0 : Nat) : Int) 1 1048576 4096 = ((0 + pc n 0 12 * 1048576 : Nat) : Int) := r0.1
  have b1 := within_le w1
  have r1 := spr_eq n (0 + pc n 0 12 * 1048576) 0 0 0 4293918720 (by omega) (by omega) w1 (by omega) (by decide)
  have w2 : Within (0 + pc n 0 12 * 1048576 + pc n 0 0 * 1) 4293918720 := r1.2.1
  have q1 : spr n ((0 + pc n 0 12 * 1048576 : Nat) : Int) 1 1 1 = ((0 + pc n 0 12 * 1048576 + pc n 0 0 * 1 : Nat) : Int) := r1.1
  have b2 := within_le w2
  have r2 := spr_eq n (0 + pc n 0 12 * 1048576 + pc n 0 0 * 1) 0 0 0 4293918720 (by omega) (by omega) w2 (by omega) (by decide)
  have w3 : Within (0 + pc n 0 12 * 1048576 + pc n 0 0 * 1 + pc n 0 0 * 1) 4293918720 := r2.2.1
  have q2 : spr n ((0 + pc n 0 12 * 1048576 + pc n 0 0 * 1 : Nat) : Int) 1 1 1 = ((0 + pc n 0 12 * 1048576 + pc n 0 0 * 1 + pc n 0 0 * 1 : Nat) : Int) := r2.1
  have b3 := within_le w3
  have r3 := spr_eq n (0 + pc n 0 12 * 1048576 + pc n 0 0 * 1 + pc n 0 0 * 1) 0 0 0 4293918720 (by omega) (by omega) w3 (by omega) (by decide)
  have w4 : Within (0 + pc n 0 12 * 1048576 + pc n 0 0 * 1 + pc n 0 0 * 1 + pc n 0 0 * 1) 4293918720 := r3.2.1
  have q3 : spr n ((0 + pc n 0 12 * 1048576 + pc n 0 0 * 1 + pc n 0 0 * 1 : Nat) : Int) 1 1 1 = ((0 + pc n 0 12 * 1048576 + pc n 0 0 * 1 + pc n 0 0 * 1 + pc n 0 0 * 1 : Nat) : Int) := r3.1
  have e : spreadV n sh1 = ((0 + pc n 0 12 * 1048576 + pc n 0 0 * 1 + pc n 0 0 * 1 + pc n 0 0 * 1 : Nat) : Int) := by
    rw [← q3, ← q2, ← q1, ← q0]
    rfl
  have z : 0 + pc n 0 12 * 1048576 + pc n 0 0 * 1 + pc n 0 0 * 1 + pc n 0 0 * 1 = pc n 0 12 * 1048576 := by
    have := pc0 n
    omega
  rw [z] at e w4
  exact ⟨e, w4⟩
theorem sp2 (n : Int) : spreadV n sh2 = ((pc n 0 6 * 1048576 : Nat) : Int) ∧ Within (pc n 0 6 * 1048576) 66060288 := by
  have w0 : Within 0 0 := rfl
  have b0 := within_le w0
  have r0 := spr_eq n (0) 0 20 6 0 (by omega) (by omega) w0 (by omega) (by decide)
  have w1 : Within (0 + pc n 0 6 * 1048576) 66060288 := r0.2.1
  have q0 : spr n ((0 : Nat) : Int) 1 1048576 64 = ((0 + pc n 0 6 * 1048576 : Nat) : Int) := r0.1
  have b1 := within_le w1
  have r1 := spr_eq n (0 + pc n 0 6 * 1048576) 0 0 0 66060288 (by omega) (by omega) w1 (by omega) (by decide)
  have w2 : Within (0 + pc n 0 6 * 1048576 + pc n 0 0 * 1) 66060288 := r1.2.1
  have q1 : spr n ((0 + pc n 0 6 * 1048576 : Nat) : Int) 1 1 1 = ((0 + pc n 0 6 * 1048576 + pc n 0 0 * 1 : Nat) : Int) := r1.1
  have b2 := within_le w2
  have r2 := spr_eq n (0 + pc n 0 6 * 1048576 + pc n 0 0 * 1) 0 0 0 66060288 (by omega) (by omega) w2 (by omega) (by decide)
  have w3 : Within (0 + pc n 0 6 * 1048576 + pc n 0 0 * 1 + pc n 0 0 * 1) 66060288 := r2.2.1
  have q2 : spr n ((0 + pc n 0 6 * 1048576 + pc n 0 0 * 1 : Nat) : Int) 1 1 1 = ((0 + pc n 0 6 * 1048576 + pc n 0 0 * 1 + pc n 0 0 * 1 : Nat) : Int) := r2.1
  have b3 := within_le w3
  have r3 := spr_eq n (0 + pc n 0 6 * 1048576 + pc n 0 0 * 1 + pc n 0 0 * 1) 0 0 0 66060288 (by omega) (by omega) w3 (by omega) (by decide)
  have w4 : Within (0 + pc n 0 6 * 1048576 + pc n 0 0 * 1 + pc n 0 0 * 1 + pc n 0 0 * 1) 66060288 := r3.2.1
  have q3 : spr n ((0 + pc n 0 6 * 1048576 + pc n 0 0 * 1 + pc n 0 0 * 1 : Nat) : Int) 1 1 1 = ((0 + pc n 0 6 * 1048576 + pc n 0 0 * 1 + pc n 0 0 * 1 + pc n 0 0 * 1 : Nat) : Int) := r3.1
  have e : spreadV n sh2 = ((0 + pc n 0 6 * 1048576 + pc n 0 0 * 1 + pc n 0 0 * 1 + pc n 0 0 * 1 : Nat) : Int) := by
    rw [← q3, ← q2, ← q1, ← q0]
    rfl
  have z : 0 + pc n 0 6 * 1048576 + pc n 0 0 * 1 + pc n 0 0 * 1 + pc n 0 0 * 1 = pc n 0 6 * 1048576 := by
    have := pc0 n
    omega
  rw [z] at e w4
  exact ⟨e, w4⟩
theorem sp3 (n : Int) : spreadV n sh3 = ((pc n 0 5 * 128 + pc n 5 7 * 33554432 : Nat) : Int) ∧ Within (pc n 0 5 * 128 + pc n 5 7 * 33554432) 4261416832 := by
  have w0 : Within 0 0 := rfl
  have b0 := within_le w0
  have r0 := spr_eq n (0) 0 7 5 0 (by omega) (by omega) w0 (by omega) (by decide)
  have w1 : Within (0 + pc n 0 5 * 128) 3968 := r0.2.1
  have q0 : spr n ((0 : Nat) : Int) 1 128 32 = ((0 + pc n 0 5 * 128 : Nat) : Int) := r0.1
  have b1 := within_le w1
  have r1 := spr_eq n (0 + pc n 0 5 * 128) 5 25 7 3968 (by omega) (by omega) w1 (by omega) (by decide)
  have w2 : Within (0 + pc n 0 5 * 128 + pc n 5 7 * 33554432) 4261416832 := r1.2.1
  have q1 : spr n ((0 + pc n 0 5 * 128 : Nat) : Int) 32 33554432 128 = ((0 + pc n 0 5 * 128 + pc n 5 7 * 33554432 : Nat) : Int) := r1.1
  have b2 := within_le w2
  have r2 := spr_eq n (0 + pc n 0 5 * 128 + pc n 5 7 * 33554432) 0 0 0 4261416832 (by omega) (by omega) w2 (by omega) (by decide)
  have w3 : Within (0 + pc n 0 5 * 128 + pc n 5 7 * 33554432 + pc n 0 0 * 1) 4261416832 := r2.2.1
  have q2 : spr n ((0 + pc n 0 5 * 128 + pc n 5 7 * 33554432 : Nat) : Int) 1 1 1 = ((0 + pc n 0 5 * 128 + pc n 5 7 * 33554432 + pc n 0 0 * 1 : Nat) : Int) := r2.1
  have b3 := within_le w3
  have r3 := spr_eq n (0 + pc n 0 5 * 128 + pc n 5 7 * 33554432 + pc n 0 0 * 1) 0 0 0 4261416832 (by omega) (by omega) w3 (by omega) (by decide)
  have w4 : Within (0 + pc n 0 5 * 128 + pc n 5 7 * 33554432 + pc n 0 0 * 1 + pc n 0 0 * 1) 4261416832 := r3.2.1
  have q3 : spr n ((0 + pc n 0 5 * 128 + pc n 5 7 * 33554432 + pc n 0 0 * 1 : Nat) : Int) 1 1 1 = ((0 + pc n 0 5 * 128 + pc n 5 7 * 33554432 + pc n 0 0 * 1 + pc n 0 0 * 1 : Nat) : Int) := r3.1
  have e : spreadV n sh3 = ((0 + pc n 0 5 * 128 + pc n 5 7 * 33554432 + pc n 0 0 * 1 + pc n 0 0 * 1 : Nat) : Int) := by
    rw [← q3, ← q2, ← q1, ← q0]
    rfl
  have z : 0 + pc n 0 5 * 128 + pc n 5 7 * 33554432 + pc n 0 0 * 1 + pc n 0 0 * 1 = pc n 0 5 * 128 + pc n 5 7 * 33554432 := by
    have := pc0 n
    omega
  rw [z] at e w4
  exact ⟨e, w4⟩
theorem sp4 (n : Int) : spreadV n sh4 = ((pc n 11 1 * 128 + pc n 1 4 * 256 + pc n 5 6 * 33554432 + pc n 12 1 * 2147483648 : Nat) : Int) ∧ Within (pc n 11 1 * 128 + pc n 1 4 * 256 + pc n 5 6 * 33554432 + pc n 12 1 * 2147483648) 4261416832 := by
  have w0 : Within 0 0 := rfl
  have b0 := within_le w0
  have r0 := spr_eq n (0) 11 7 1 0 (by omega) (by omega) w0 (by omega) (by decide)
  have w1 : Within (0 + pc n 11 1 * 128) 128 := r0.2.1
  have q0 : spr n ((0 : Nat) : Int) 2048 128 2 = ((0 + pc n 11 1 * 128 : Nat) : Int) := r0.1
  have b1 := within_le w1
  have r1 := spr_eq n (0 + pc n 11 1 * 128) 1 8 4 128 (by omega) (by omega) w1 (by omega) (by decide)
  have w2 : Within (0 + pc n 11 1 * 128 + pc n 1 4 * 256) 3968 := r1.2.1
  have q1 : spr n ((0 + pc n 11 1 * 128 : Nat) : Int) 2 256 16 = ((0 + pc n 11 1 * 128 + pc n 1 4 * 256 : Nat) : Int) := r1.1
  have b2 := within_le w2
  have r2 := spr_eq n (0 + pc n 11 1 * 128 + pc n 1 4 * 256) 5 25 6 3968 (by omega) (by omega) w2 (by omega) (by decide)
  have w3 : Within (0 + pc n 11 1 * 128 + pc n 1 4 * 256 + pc n 5 6 * 33554432) 2113933184 := r2.2.1
  have q2 : spr n ((0 + pc n 11 1 * 128 + pc n 1 4 * 256 : Nat) : Int) 32 33554432 64 = ((0 + pc n 11 1 * 128 + pc n 1 4 * 256 + pc n 5 6 * 33554432 : Nat) : Int) := r2.1
  have b3 := within_le w3
  have r3 := spr_eq n (0 + pc n 11 1 * 128 + pc n 1 4 * 256 + pc n 5 6 * 33554432) 12 31 1 2113933184 (by omega) (by omega) w3 (by omega) (by decide)
  have w4 : Within (0 + pc n 11 1 * 128 + pc n 1 4 * 256 + pc n 5 6 * 33554432 + pc n 12 1 * 2147483648) 4261416832 := r3.2.1
  have q3 : spr n ((0 + pc n 11 1 * 128 + pc n 1 4 * 256 + pc n 5 6 * 33554432 : Nat) : Int) 4096 2147483648 2 = ((0 + pc n 11 1 * 128 + pc n 1 4 * 256 + pc n 5 6 * 33554432 + pc n 12 1 * 2147483648 : Nat) : Int) := r3.1
  have e : spreadV n sh4 = ((0 + pc n 11 1 * 128 + pc n 1 4 * 256 + pc n 5 6 * 33554432 + pc n 12 1 * 2147483648 : Nat) : Int) := by
    rw [← q3, ← q2, ← q1, ← q0]
    rfl
  have z : 0 + pc n 11 1 * 128 + pc n 1 4 * 256 + pc n 5 6 * 33554432 + pc n 12 1 * 2147483648 = pc n 11 1 * 128 + pc n 1 4 * 256 + pc n 5 6 * 33554432 + pc n 12 1 * 2147483648 := by
    have := pc0 n
    omega
  rw [z] at e w4
  exact ⟨e, w4⟩
theorem sp5 (n : Int) : spreadV n sh5 = ((pc n 12 20 * 4096 : Nat) : Int) ∧ Within (pc n 12 20 * 4096) 4294963200 := by
  have w0 : Within 0 0 := rfl
  have b0 := within_le w0
  have r0 := spr_eq n (0) 12 12 20 0 (by omega) (by omega) w0 (by omega) (by decide)
  have w1 : Within (0 + pc n 12 20 * 4096) 4294963200 := r0.2.1
  have q0 : spr n ((0 : Nat) : Int) 4096 4096 1048576 = ((0 + pc n 12 20 * 4096 : Nat) : Int) := r0.1
  have b1 := within_le w1
  have r1 := spr_eq n (0 + pc n 12 20 * 4096) 0 0 0 4294963200 (by omega) (by omega) w1 (by omega) (by decide)
  have w2 : Within (0 + pc n 12 20 * 4096 + pc n 0 0 * 1) 4294963200 := r1.2.1
  have q1 : spr n ((0 + pc n 12 20 * 4096 : Nat) : Int) 1 1 1 = ((0 + pc n 12 20 * 4096 + pc n 0 0 * 1 : Nat) : Int) := r1.1
  have b2 := within_le w2
  have r2 := spr_eq n (0 + pc n 12 20 * 4096 + pc n 0 0 * 1) 0 0 0 4294963200 (by omega) (by omega) w2 (by omega) (by decide)
  have w3 : Within (0 + pc n 12 20 * 4096 + pc n 0 0 * 1 + pc n 0 0 * 1) 4294963200 := r2.2.1
  have q2 : spr n ((0 + pc n 12 20 * 4096 + pc n 0 0 * 1 : Nat) : Int) 1 1 1 = ((0 + pc n 12 20 * 4096 + pc n 0 0 * 1 + pc n 0 0 * 1 : Nat) : Int) := r2.1
  have b3 := within_le w3
  have r3 := spr_eq n (0 + pc n 12 20 * 4096 + pc n 0 0 * 1 + pc n 0 0 * 1) 0 0 0 4294963200 (by omega) (by omega) w3 (by omega) (by decide)
  have w4 : Within (0 + pc n 12 20 * 4096 + pc n 0 0 * 1 + pc n 0 0 * 1 + pc n 0 0 * 1) 4294963200 := r3.2.1
  have q3 : spr n ((0 + pc n 12 20 * 4096 + pc n 0 0 * 1 + pc n 0 0 * 1 : Nat) : Int) 1 1 1 = ((0 + pc n 12 20 * 4096 + pc n 0 0 * 1 + pc n 0 0 * 1 + pc n 0 0 * 1 : Nat) : Int) := r3.1
  have e : spreadV n sh5 = ((0 + pc n 12 20 * 4096 + pc n 0 0 * 1 + pc n 0 0 * 1 + pc n 0 0 * 1 : Nat) : Int) := by
    rw [← q3, ← q2, ← q1, ← q0]
    rfl
  have z : 0 + pc n 12 20 * 4096 + pc n 0 0 * 1 + pc n 0 0 * 1 + pc n 0 0 * 1 = pc n 12 20 * 4096 := by
    have := pc0 n
    omega
  rw [z] at e w4
  exact ⟨e, w4⟩
theorem sp6 (n : Int) : spreadV n sh6 = ((pc n 12 8 * 4096 + pc n 11 1 * 1048576 + pc n 1 10 * 2097152 + pc n 20 1 * 2147483648 : Nat) : Int) ∧ Within (pc n 12 8 * 4096 + pc n 11 1 * 1048576 + pc n 1 10 * 2097152 + pc n 20 1 * 2147483648) 4294963200 := by
  have w0 : Within 0 0 := rfl
  have b0 := within_le w0
  have r0 := spr_eq n (0) 12 12 8 0 (by omega) (by omega) w0 (by omega) (by decide)
  have w1 : Within (0 + pc n 12 8 * 4096) 1044480 := r0.2.1
  have q0 : spr n ((0 : Nat) : Int) 4096 4096 256 = ((0 + pc n 12 8 * 4096 : Nat) : Int) := r0.1
  have b1 := within_le w1
  have r1 := spr_eq n (0 + pc n 12 8 * 4096) 11 20 1 1044480 (by omega) (by omega) w1 (by omega) (by decide)
  have w2 : Within (0 + pc n 12 8 * 4096 + pc n 11 1 * 1048576) 2093056 := r1.2.1
  have q1 : spr n ((0 + pc n 12 8 * 4096 : Nat) : Int) 2048 1048576 2 = ((0 + pc n 12 8 * 4096 + pc n 11 1 * 1048576 : Nat) : Int) := r1.1
  have b2 := within_le w2
  have r2 := spr_eq n (0 + pc n 12 8 * 4096 + pc n 11 1 * 1048576) 1 21 10 2093056 (by omega) (by omega) w2 (by omega) (by decide)
  have w3 : Within (0 + pc n 12 8 * 4096 + pc n 11 1 * 1048576 + pc n 1 10 * 2097152) 2147479552 := r2.2.1
  have q2 : spr n ((0 + pc n 12 8 * 4096 + pc n 11 1 * 1048576 : Nat) : Int) 2 2097152 1024 = ((0 + pc n 12 8 * 4096 + pc n 11 1 * 1048576 + pc n 1 10 * 2097152 : Nat) : Int) := r2.1
  have b3 := within_le w3
  have r3 := spr_eq n (0 + pc n 12 8 * 4096 + pc n 11 1 * 1048576 + pc n 1 10 * 2097152) 20 31 1 2147479552 (by omega) (by omega) w3 (by omega) (by decide)
  have w4 : Within (0 + pc n 12 8 * 4096 + pc n 11 1 * 1048576 + pc n 1 10 * 2097152 + pc n 20 1 * 2147483648) 4294963200 := r3.2.1
  have q3 : spr n ((0 + pc n 12 8 * 4096 + pc n 11 1 * 1048576 + pc n 1 10 * 2097152 : Nat) : Int) 1048576 2147483648 2 = ((0 + pc n 12 8 * 4096 + pc n 11 1 * 1048576 + pc n 1 10 * 2097152 + pc n 20 1 * 2147483648 : Nat) : Int) := r3.1
  have e : spreadV n sh6 = ((0 + pc n 12 8 * 4096 + pc n 11 1 * 1048576 + pc n 1 10 * 2097152 + pc n 20 1 * 2147483648 : Nat) : Int) := by
    rw [← q3, ← q2, ← q1, ← q0]
    rfl
  have z : 0 + pc n 12 8 * 4096 + pc n 11 1 * 1048576 + pc n 1 10 * 2097152 + pc n 20 1 * 2147483648 = pc n 12 8 * 4096 + pc n 11 1 * 1048576 + pc n 1 10 * 2097152 + pc n 20 1 * 2147483648 := by
    have := pc0 n
    omega
  rw [z] at e w4
  exact ⟨e, w4⟩
theorem sp7 (n : Int) : spreadV n sh7 = ((0 : Nat) : Int) ∧ Within (0) 0 := by
  have w0 : Within 0 0 := rfl
  have b0 := within_le w0
  have r0 := spr_eq n (0) 0 0 0 0 (by omega) (by omega) w0 (by omega) (by decide)
  have w1 : Within (0 + pc n 0 0 * 1) 0 := r0.2.1
  have q0 : spr n ((0 : Nat) : Int) 1 1 1 = ((0 + pc n 0 0 * 1 : Nat) : Int) := r0.1
  have b1 := within_le w1
  have r1 := spr_eq n (0 + pc n 0 0 * 1) 0 0 0 0 (by omega) (by omega) w1 (by omega) (by decide)
  have w2 : Within (0 + pc n 0 0 * 1 + pc n 0 0 * 1) 0 := r1.2.1
  have q1 : spr n ((0 + pc n 0 0 * 1 : Nat) : Int) 1 1 1 = ((0 + pc n 0 0 * 1 + pc n 0 0 * 1 : Nat) : Int) := r1.1
  have b2 := within_le w2
  have r2 := spr_eq n (0 + pc n 0 0 * 1 + pc n 0 0 * 1) 0 0 0 0 (by omega) (by omega) w2 (by omega) (by decide)
  have w3 : Within (0 + pc n 0 0 * 1 + pc n 0 0 * 1 + pc n 0 0 * 1) 0 := r2.2.1
  have q2 : spr n ((0 + pc n 0 0 * 1 + pc n 0 0 * 1 : Nat) : Int) 1 1 1 = ((0 + pc n 0 0 * 1 + pc n 0 0 * 1 + pc n 0 0 * 1 : Nat) : Int) := r2.1
  have b3 := within_le w3
  have r3 := spr_eq n (0 + pc n 0 0 * 1 + pc n 0 0 * 1 + pc n 0 0 * 1) 0 0 0 0 (by omega) (by omega) w3 (by omega) (by decide)
  have w4 : Within (0 + pc n 0 0 * 1 + pc n 0 0 * 1 + pc n 0 0 * 1 + pc n 0 0 * 1) 0 := r3.2.1
  have q3 : spr n ((0 + pc n 0 0 * 1 + pc n 0 0 * 1 + pc n 0 0 * 1 : Nat) : Int) 1 1 1 = ((0 + pc n 0 0 * 1 + pc n 0 0 * 1 + pc n 0 0 * 1 + pc n 0 0 * 1 : Nat) : Int) := r3.1
  have e : spreadV n sh7 = ((0 + pc n 0 0 * 1 + pc n 0 0 * 1 + pc n 0 0 * 1 + pc n 0 0 * 1 : Nat) : Int) := by
    rw [← q3, ← q2, ← q1, ← q0]
    rfl
  have z : 0 + pc n 0 0 * 1 + pc n 0 0 * 1 + pc n 0 0 * 1 + pc n 0 0 * 1 = 0 := by
    have := pc0 n
    omega
  rw [z] at e w4
  exact ⟨e, w4⟩
end Go.Proofs.YtchankbdfkgdiaaDoor
