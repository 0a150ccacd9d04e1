/- What a machine is, as package machine holds it in memory; which blocks a call may have turned. Package machine's small methods, walked. Package machine's gather, walked. Package machine's lay, walked. Package machine's Load, Store, walked over a machine's cells. -/
import Derived.Test.YtaodcpdkobhmfaaDoorMA
import Derived.Below
import Derived.BigRegion
import Derived.Test.YtaodcpdkobhmfaaDoorMB
import Derived.Test.YtaodcpdkobhmfaaDoorQ1
namespace Go.Proofs.YtaodcpdkobhmfaaDoor
open Go Go.RowKit

/-- Of what was there, nothing has turned outside the blocks of S. -/
structure Off (S : Nat → Prop) (w w' : World) : Prop where
  os : w'.os = w.os
  tape : w'.tape = w.tape
  output : w'.output = w.output
  size : w.heap.size ≤ w'.heap.size
  block : ∀ k, k < w.heap.size → ¬ S k → w'.heap[k]? = w.heap[k]?

theorem Off.refl (S : Nat → Prop) (w : World) : Off S w w := ⟨rfl, rfl, rfl, Nat.le_refl _, fun _ _ _ => rfl⟩
theorem Off.trans {S : Nat → Prop} {a b c : World} (h : Off S a b) (k : Off S b c) : Off S a c :=
  ⟨k.os.trans h.os, k.tape.trans h.tape, k.output.trans h.output, Nat.le_trans h.size k.size, fun i hi hs => (k.block i (Nat.lt_of_lt_of_le hi h.size) hs).trans (h.block i hi hs)⟩
/-- Two calls; the second may turn what the first made, too. -/
theorem Off.trans' {S S' : Nat → Prop} {a b c : World} (h : Off S a b) (k : Off S' b c) (hs : ∀ i, i < a.heap.size → S' i → S i) : Off S a c :=
  ⟨k.os.trans h.os, k.tape.trans h.tape, k.output.trans h.output, Nat.le_trans h.size k.size, fun i hi hn => (k.block i (Nat.lt_of_lt_of_le hi h.size) (fun e => hn (hs i hi e))).trans (h.block i hi hn)⟩
theorem Off.mono {S S' : Nat → Prop} {a b : World} (h : Off S a b) (hs : ∀ i, i < a.heap.size → S i → S' i) : Off S' a b :=
  ⟨h.os, h.tape, h.output, h.size, fun i hi hn => h.block i hi (fun e => hn (hs i hi e))⟩
theorem Off.of_below {S : Nat → Prop} {a b : World} (h : Below a.heap.size a b) : Off S a b := ⟨h.os, h.tape, h.output, h.size, fun i hi _ => h.block i hi⟩
theorem Off.below {S : Nat → Prop} {a b : World} (h : Off S a b) {B : Nat} (hB : B ≤ a.heap.size) (hs : ∀ i, i < B → ¬ S i) : Below B a b := ⟨h.os, h.tape, h.output, h.size, fun i hi => h.block i (Nat.lt_of_lt_of_le hi hB) (hs i hi)⟩
theorem Off.drew {S : Nat → Prop} {a w : World} (h : Off S a w) : Off S a w.drew := ⟨h.os, h.tape, h.output, h.size, h.block⟩
theorem Off.drewN {S : Nat → Prop} {a w : World} (h : Off S a w) (n : Nat) : Off S a (w.drewN n) := ⟨h.os, h.tape, h.output, h.size, h.block⟩
theorem Off.alloc {S : Nat → Prop} {a w : World} (h : Off S a w) (o : Obj) : Off S a (w.alloc o) :=
  h.trans ⟨rfl, rfl, rfl, by simp, fun k hk _ => Below.heap_alloc _ _ _ hk⟩
theorem Off.setCell {S : Nat → Prop} {a w : World} (h : Off S a w) {p : Addr} (hp : p.block < a.heap.size → S p.block) (u : Value) : Off S a (w.setCell p u) :=
  ⟨h.os, h.tape, h.output, by simpa [World.setCell] using h.size, fun k hk hn => by
    have hne : k ≠ p.block := fun e => hn (e ▸ hp (e ▸ hk))
    rw [Below.heap_setCell _ _ _ _ hne]; exact h.block k hk hn⟩
theorem Off.cell {S : Nat → Prop} {w w' : World} (h : Off S w w') {p : Addr} (hp : p.block < w.heap.size) (hn : ¬ S p.block) : w'.cell? p = w.cell? p := World.cell?_of_block (w := w) (h.block p.block hp hn)
theorem Off.frozen {S : Nat → Prop} {w w' : World} (h : Off S w w') {p : Addr} (hp : p.block < w.heap.size) (hn : ¬ S p.block) : w'.frozen? p = w.frozen? p := World.frozen?_of_block (w := w) (h.block p.block hp hn)

/-- A machine's state. -/
structure MS where
  R : Nat → Int
  M : Nat → Int
  pc : Int
  G : List Int
  way : Int
  code : Int
  out : List Int

/-- The struct's cells, and the bytes. -/
structure Core (w : World) (s mb L : Nat) (m : MS) (gv ov : Value) : Prop where
  s0 : s < w.heap.size
  b0 : mb < w.heap.size
  ne : s ≠ mb
  L1 : L ≤ 65536
  reg : ∀ i, i < 32 → w.cell? ⟨s, i, none⟩ = some (.int .i64 (m.R i))
  mem : w.cell? ⟨s, 32, none⟩ = some (.slice (some ⟨mb, 0, none⟩) L L)
  pc : w.cell? ⟨s, 33, none⟩ = some (.int .i64 m.pc)
  giv : w.cell? ⟨s, 34, none⟩ = some gv
  way : w.cell? ⟨s, 35, none⟩ = some (.int .i64 m.way)
  cod : w.cell? ⟨s, 36, none⟩ = some (.int .i64 m.code)
  out : w.cell? ⟨s, 37, none⟩ = some ov
  byt : ∀ i, i < L → w.cell? ⟨mb, i, none⟩ = some (.int .u8 (m.M i))
  fs : ∀ i, w.frozen? ⟨s, i, none⟩ = false
  fb : ∀ i, w.frozen? ⟨mb, i, none⟩ = false
  M0 : ∀ i, i < L → 0 ≤ m.M i ∧ m.M i ≤ 255
end Go.Proofs.YtaodcpdkobhmfaaDoor

namespace Go.Proofs.YtaodcpdkobhmfaaDoor
open Go Go.RowKit

theorem pc_any (w : World) (s : Nat) (p : Int) (h : w.cell? ⟨s, 33, none⟩ = some (.int .i64 p)) :
    Calls Tryd.prog 22 #[.pointer (some ⟨s, 0, none⟩)] w fun e w' => e = .returned (.int .i64 p) ∧ w' = w := by
  go_enter Tryd.func22, Tryd.ntmps22
  go_wp2
  go_ret
  exact ⟨rfl, rfl⟩

theorem reg_any (w : World) (s : Nat) (R : Nat → Int) (n : Nat) (hn : n < 32) (h : w.cell? ⟨s, n, none⟩ = some (.int .i64 (R n))) :
    Calls Tryd.prog 23 #[.pointer (some ⟨s, 0, none⟩), .int .i64 (n : Int)] w fun e w' => e = .returned (.int .i64 (R n)) ∧ w' = w := by
  go_enter Tryd.func23, Tryd.ntmps23
  go_wp2
  go_ret
  exact ⟨rfl, rfl⟩
theorem reg_none (w : World) (s : Nat) (n : Int) (hn : n < 0 ∨ 32 ≤ n) :
    Calls Tryd.prog 23 #[.pointer (some ⟨s, 0, none⟩), .int .i64 n] w fun e w' => e = .returned (.int .i64 0) ∧ w' = w := by
  rcases hn with h | h
  · go_enter Tryd.func23, Tryd.ntmps23
    go_wp2
    go_ret
    exact ⟨rfl, rfl⟩
  · have h' : ¬ n < 0 := by omega
    go_enter Tryd.func23, Tryd.ntmps23
    go_wp2
    go_ret
    exact ⟨rfl, rfl⟩

theorem stop_any (w : World) (s : Nat) (a b : Int) (v0 v1 : Value) (h0 : w.cell? ⟨s, 35, none⟩ = some v0) (h1 : w.cell? ⟨s, 36, none⟩ = some v1) (hf : ∀ i, w.frozen? ⟨s, i, none⟩ = false) :
    Calls Tryd.prog 30 #[.pointer (some ⟨s, 0, none⟩), .int .i64 a, .int .i64 b] w fun e w' => e = .returned (.tuple #[]) ∧ w' = (w.setCell ⟨s, 35, none⟩ (.int .i64 a)).setCell ⟨s, 36, none⟩ (.int .i64 b) := by
  go_enter Tryd.func30, Tryd.ntmps30
  go_wp2
  go_end0
  exact ⟨rfl, rfl⟩

def hasB (L : Nat) (a c : Int) : Bool := decide (0 ≤ a) && (a % c == 0) && decide (a ≤ (L : Int) - c)

theorem has_any (w : World) (s mb L : Nat) (a c : Int) (hc : c = 4 ∨ c = 8) (hL : L ≤ 65536) (h : w.cell? ⟨s, 32, none⟩ = some (.slice (some ⟨mb, 0, none⟩) L L)) :
    Calls Tryd.prog 37 #[.pointer (some ⟨s, 0, none⟩), .int .i64 a, .int .i64 c] w fun e w' => e = .returned (.bool (hasB L a c)) ∧ w' = w := by
  by_cases h0 : 0 ≤ a
  · rcases hc with rfl | rfl
    all_goals
      go_enter Tryd.func37, Tryd.ntmps37
      go_wp2
      all_goals
        go_ret
        refine ⟨ret_bool ?_, rfl⟩
        simp [hasB, *]
  · rcases hc with rfl | rfl
    all_goals
      go_enter Tryd.func37, Tryd.ntmps37
      go_wp2
      go_ret
      refine ⟨ret_bool ?_, rfl⟩
      have h0' : a < 0 := by omega
      simp [hasB]
      omega
end Go.Proofs.YtaodcpdkobhmfaaDoor

namespace Go.Proofs.YtaodcpdkobhmfaaDoor
open Go Go.RowKit

/-- The number of k bytes, the least first. -/
def gthTo (M : Nat → Int) (a : Nat) : Nat → Int
  | 0 => 0
  | k + 1 => gthTo M a k + M (a + k) * 256 ^ k

theorem gth_range (M : Nat → Int) (a k : Nat) (h : ∀ i, i < k → 0 ≤ M (a + i) ∧ M (a + i) ≤ 255) : 0 ≤ gthTo M a k ∧ gthTo M a k < 256 ^ k := by
  induction k with
  | zero => simp [gthTo]
  | succ k ih =>
    have h1 := ih (fun i hi => h i (by omega))
    have h2 := h k (by omega)
    have e : (256 : Int) ^ (k + 1) = 256 * 256 ^ k := by rw [Int.pow_succ]; omega
    have p : (0 : Int) < 256 ^ k := Int.pow_pos (by omega)
    simp only [gthTo]
    rw [e]
    generalize (256 : Int) ^ k = q at *
    generalize M (a + k) = x at *
    obtain ⟨x0, x1⟩ := h2
    have g1 : 0 ≤ x * q := Int.mul_nonneg x0 (by omega)
    have g2 : x * q ≤ 255 * q := Int.mul_le_mul_of_nonneg_right x1 (by omega)
    omega

theorem or_add64 (z y n q : Nat) (hz : z < 2 ^ n) (hq : q = 2 ^ n * y) (h : q < 18446744073709551616) (hz' : z < 18446744073709551616) : bits .or .u64 (z : Int) (q : Int) = ((z + q : Nat) : Int) := by
  have e : bits .or .u64 (z : Int) (q : Int) = IntKind.u64.wrap ((BitVec.ofInt 64 (z : Int) ||| BitVec.ofInt 64 (q : Int)).toNat : Int) := rfl
  rw [e, BitVec.toNat_or]
  have t1 : (BitVec.ofInt 64 (z : Int)).toNat = z := by rw [BitVec.toNat_ofInt]; simp; omega
  have t2 : (BitVec.ofInt 64 (q : Int)).toNat = q := by rw [BitVec.toNat_ofInt]; simp; omega
  rw [t1, t2]
  have h2 : z ||| q = z + q := by
    rw [Nat.or_comm, hq, ← Nat.two_pow_add_eq_or_of_lt hz, Nat.add_comm]
  have hlt : z + q < 18446744073709551616 := by
    have := Nat.or_lt_two_pow (x := z) (y := q) (n := 64) (by simpa using hz') (by simpa using h)
    rw [h2] at this
    simpa using this
  rw [h2]
  clear h2 hq hz
  simp [IntKind.wrap, IntKind.bits, IntKind.signed]
  omega

theorem or_addI (z y p : Int) (n : Nat) (hp : p = ((2 ^ n : Nat) : Int)) (hz0 : 0 ≤ z) (hz : z < p) (hy : 0 ≤ y) (h : y * p < 18446744073709551616) (hz' : z < 18446744073709551616) : bits .or .u64 z (y * p) = z + y * p := by
  obtain ⟨z, rfl⟩ := Int.eq_ofNat_of_zero_le hz0
  obtain ⟨y, rfl⟩ := Int.eq_ofNat_of_zero_le hy
  subst hp
  have hq : (y : Int) * ((2 ^ n : Nat) : Int) = ((2 ^ n * y : Nat) : Int) := by rw [Int.natCast_mul, Int.mul_comm]
  rw [hq] at h ⊢
  have hz2 : z < 2 ^ n := Int.ofNat_lt.1 hz
  clear hz hq
  generalize hq : 2 ^ n * y = q at *
  rw [or_add64 z y n q hz2 hq.symm (by omega) (by omega)]
  omega

set_option maxHeartbeats 1000000 in
theorem mgather_any (w : World) (s mb L a : Nat) (c : Int) (M : Nat → Int) (hc : c = 4 ∨ c = 8) (hL : L ≤ 65536) (ha : (a : Int) + c ≤ L) (h : w.cell? ⟨s, 32, none⟩ = some (.slice (some ⟨mb, 0, none⟩) L L))
    (hb : ∀ i, i < L → w.cell? ⟨mb, i, none⟩ = some (.int .u8 (M i))) (h0 : ∀ i, i < L → 0 ≤ M i ∧ M i ≤ 255) :
    Calls Tryd.prog 38 #[.pointer (some ⟨s, 0, none⟩), .int .i64 (a : Int), .int .i64 c] w fun e w' => e = .returned (.int .u64 (gthTo M a c.toNat)) ∧ w' = w := by
  have HB : Hid (∀ i, i < L → w.cell? ⟨mb, i, none⟩ = some (.int .u8 (M i))) := hb
  have H0 : Hid (∀ i, i < L → 0 ≤ M i ∧ M i ≤ 255) := h0
  clear hb h0
  have c4 : 4 ≤ c ∧ c ≤ 8 := by omega
  have HC : Hid (c = 4 ∨ c = 8) := hc
  clear hc
  go_enter Tryd.func38, Tryd.ntmps38
  go_wp2
  go_loop [7, 10] (fun v i => ∃ (k : Nat) (z : Int), (k : Int) ≤ c ∧ i = .int .i64 k ∧ v = .int .u64 z ∧ z = gthTo M a k) (fun _ i => 8 - (intOf i).toNat)
  case atStart => exact ⟨0, 0, by omega, rfl, rfl, rfl⟩
  case round =>
    obtain ⟨k, z, hk, rfl, rfl, hz⟩ := hrel
    have HZ : Hid (z = gthTo M a k) := hz
    clear hz
    by_cases hlt : (k : Int) < c
    · have k8 : k = 0 ∨ k = 1 ∨ k = 2 ∨ k = 3 ∨ k = 4 ∨ k = 5 ∨ k = 6 ∨ k = 7 := by omega
      have b := HB.out (a + k) (by omega)
      have x := H0.out (a + k) (by omega)
      have rg := gth_range M a k (fun i hi => H0.out (a + i) (by omega))
      have HN : Hid (gthTo M a (k + 1) = z + M (a + k) * 256 ^ k) := by show _ = _; rw [HZ.out]; rfl
      rw [← HZ.out] at rg
      have XM : Hid (M (a + k) = M (a + k)) := rfl
      generalize M (a + k) = y at *
      rcases k8 with rfl | rfl | rfl | rfl | rfl | rfl | rfl | rfl
      · simp only [Nat.add_zero] at b
        go_wp2
        have hz0 : z = 0 := by rw [HZ.out]; rfl
        have ho := or_addI z y 1 0 rfl (by omega) (by omega) (by omega) (by omega) (by omega)
        exact ⟨⟨1, _, by omega, rfl, rfl, by rw [HN.out]; simpa using ho⟩, by simp [intOf]⟩
      · go_wp2
        exact ⟨⟨2, _, by omega, rfl, rfl, by rw [HN.out]; exact or_addI z y 256 8 rfl (by omega) (by simpa using rg.2) (by omega) (by omega) (by have := rg.2; simp at this; omega)⟩, by simp [intOf]⟩
      · go_wp2
        exact ⟨⟨3, _, by omega, rfl, rfl, by rw [HN.out]; exact or_addI z y 65536 16 rfl (by omega) (by simpa using rg.2) (by omega) (by omega) (by have := rg.2; simp at this; omega)⟩, by simp [intOf]⟩
      · go_wp2
        exact ⟨⟨4, _, by omega, rfl, rfl, by rw [HN.out]; exact or_addI z y 16777216 24 rfl (by omega) (by simpa using rg.2) (by omega) (by omega) (by have := rg.2; simp at this; omega)⟩, by simp [intOf]⟩
      · go_wp2
        exact ⟨⟨5, _, by omega, rfl, rfl, by rw [HN.out]; exact or_addI z y 4294967296 32 rfl (by omega) (by simpa using rg.2) (by omega) (by omega) (by have := rg.2; simp at this; omega)⟩, by simp [intOf]⟩
      · go_wp2
        exact ⟨⟨6, _, by omega, rfl, rfl, by rw [HN.out]; exact or_addI z y 1099511627776 40 rfl (by omega) (by simpa using rg.2) (by omega) (by omega) (by have := rg.2; simp at this; omega)⟩, by simp [intOf]⟩
      · go_wp2
        exact ⟨⟨7, _, by omega, rfl, rfl, by rw [HN.out]; exact or_addI z y 281474976710656 48 rfl (by omega) (by simpa using rg.2) (by omega) (by omega) (by have := rg.2; simp at this; omega)⟩, by simp [intOf]⟩
      · go_wp2
        exact ⟨⟨8, _, by omega, rfl, rfl, by rw [HN.out]; exact or_addI z y 72057594037927936 56 rfl (by omega) (by simpa using rg.2) (by omega) (by omega) (by have := rg.2; simp at this; omega)⟩, by simp [intOf]⟩
    · have e : c = k := by omega
      subst e
      go_wp2
      go_ret
      exact ⟨ret_int HZ.out, rfl⟩
end Go.Proofs.YtaodcpdkobhmfaaDoor

namespace Go.Proofs.YtaodcpdkobhmfaaDoor
open Go Go.RowKit

/-- The bytes, with the first k of a number's laid from a on. -/
def layTo (M : Nat → Int) (a : Nat) (v : Int) (k : Nat) : Nat → Int := fun j => if a ≤ j ∧ j < a + k then v / 256 ^ (j - a) % 256 else M j

theorem layTo_zero (M : Nat → Int) (a : Nat) (v : Int) : layTo M a v 0 = M := by
  funext j; unfold layTo; rw [if_neg (by omega)]

theorem layTo_succ (M : Nat → Int) (a : Nat) (v : Int) (k j : Nat) : layTo M a v (k + 1) j = if j = a + k then v / 256 ^ k % 256 else layTo M a v k j := by
  unfold layTo
  by_cases h : j = a + k
  · rw [if_pos h, if_pos (by omega)]; congr; omega
  · rw [if_neg h]
    by_cases h2 : a ≤ j ∧ j < a + k
    · rw [if_pos h2, if_pos (by omega)]
    · rw [if_neg h2, if_neg (by omega)]

/-- Bytes in a block. -/
structure Bts (w : World) (mb L : Nat) (M : Nat → Int) : Prop where
  c : ∀ i, i < L → w.cell? ⟨mb, i, none⟩ = some (.int .u8 (M i))
  f : ∀ i, w.frozen? ⟨mb, i, none⟩ = false

theorem Bts.put {w : World} {mb L : Nat} {M : Nat → Int} (h : Bts w mb L M) (a k : Nat) (v x : Int) (hx : x = v / 256 ^ k % 256) {M0 : Nat → Int} (hM : M = layTo M0 a v k) :
    Bts (w.setCell ⟨mb, a + k, none⟩ (.int .u8 x)) mb L (layTo M0 a v (k + 1)) := by
  subst hM
  refine ⟨fun i hi => ?_, fun i => by rw [World.frozen?_setCell]; exact h.f i⟩
  rw [layTo_succ]
  by_cases e : i = a + k
  · subst e
    rw [World.cell?_setCell_same _ _ _ (h.c _ hi), if_pos rfl, hx]
  · rw [World.cell?_setCell_other _ _ _ _ (by intro h; apply e; injection h with h1 h2; exact h2.symm), if_neg e]
    exact h.c i hi

theorem Bts.drew {w : World} {mb L : Nat} {M : Nat → Int} (h : Bts w mb L M) : Bts w.drew mb L M := ⟨fun i hi => by simpa using h.c i hi, fun i => by simpa using h.f i⟩

set_option maxHeartbeats 1000000 in
theorem lay_any (w : World) (s mb L a : Nat) (c v : Int) (M : Nat → Int) (hc : c = 4 ∨ c = 8) (hL : L ≤ 65536) (ha : (a : Int) + c ≤ L) (h : w.cell? ⟨s, 32, none⟩ = some (.slice (some ⟨mb, 0, none⟩) L L))
    (hne : s ≠ mb) (hs : s < w.heap.size) (hb : Bts w mb L M) (hv0 : 0 ≤ v) (hv1 : v < 18446744073709551616) :
    Calls Tryd.prog 26 #[.pointer (some ⟨s, 0, none⟩), .int .i64 (a : Int), .int .i64 c, .int .u64 v] w fun e w' => e = .returned (.tuple #[]) ∧ Bts w' mb L (layTo M a v c.toNat) ∧ Off (· = mb) w w' := by
  have HB : Hid (Bts w mb L M) := hb
  have HM : Hid (w.cell? ⟨s, 32, none⟩ = some (.slice (some ⟨mb, 0, none⟩) L L)) := h
  clear hb h
  have c4 : 4 ≤ c ∧ c ≤ 8 := by omega
  clear hc
  go_enter Tryd.func26, Tryd.ntmps26
  go_wp2
  go_loopw [10] (fun i wr => ∃ (k : Nat), (k : Int) ≤ c ∧ i = .int .i64 k ∧ Hid (Bts wr mb L (layTo M a v k)) ∧ Hid (Off (· = mb) w wr)) (fun i _ => 8 - (intOf i).toNat)
  case atStart => exact ⟨0, by omega, rfl, by rw [layTo_zero]; exact HB, Off.refl _ _⟩
  case round =>
    obtain ⟨k, hk, rfl, hbt, hof⟩ := hrel
    have hms : wr.cell? ⟨s, 32, none⟩ = some (.slice (some ⟨mb, 0, none⟩) L L) := (hof.out.cell hs hne).trans HM.out
    by_cases hlt : (k : Int) < c
    · have k8 : k = 0 ∨ k = 1 ∨ k = 2 ∨ k = 3 ∨ k = 4 ∨ k = 5 ∨ k = 6 ∨ k = 7 := by omega
      have b := hbt.out.c (a + k) (by omega)
      have f := hbt.out.f (a + k)
      generalize layTo M a v k (a + k) = y at b
      rcases k8 with rfl | rfl | rfl | rfl | rfl | rfl | rfl | rfl
      · simp only [Nat.add_zero] at b f
        go_wp2
        go_region
        go_wp2
        exact ⟨⟨1, by omega, rfl, (hbt.out.put a 0 v _ (by simp) rfl).drew, (hof.out.setCell (fun _ => rfl) _).drew⟩, by simp [intOf]⟩
      · go_wp2
        go_region
        go_wp2
        exact ⟨⟨2, by omega, rfl, (hbt.out.put a 1 v _ (by simp) rfl).drew, (hof.out.setCell (fun _ => rfl) _).drew⟩, by simp [intOf]⟩
      · go_wp2
        go_region
        go_wp2
        exact ⟨⟨3, by omega, rfl, (hbt.out.put a 2 v _ (by simp) rfl).drew, (hof.out.setCell (fun _ => rfl) _).drew⟩, by simp [intOf]⟩
      · go_wp2
        go_region
        go_wp2
        exact ⟨⟨4, by omega, rfl, (hbt.out.put a 3 v _ (by simp) rfl).drew, (hof.out.setCell (fun _ => rfl) _).drew⟩, by simp [intOf]⟩
      · go_wp2
        go_region
        go_wp2
        exact ⟨⟨5, by omega, rfl, (hbt.out.put a 4 v _ (by simp) rfl).drew, (hof.out.setCell (fun _ => rfl) _).drew⟩, by simp [intOf]⟩
      · go_wp2
        go_region
        go_wp2
        exact ⟨⟨6, by omega, rfl, (hbt.out.put a 5 v _ (by simp) rfl).drew, (hof.out.setCell (fun _ => rfl) _).drew⟩, by simp [intOf]⟩
      · go_wp2
        go_region
        go_wp2
        exact ⟨⟨7, by omega, rfl, (hbt.out.put a 6 v _ (by simp) rfl).drew, (hof.out.setCell (fun _ => rfl) _).drew⟩, by simp [intOf]⟩
      · go_wp2
        go_region
        go_wp2
        exact ⟨⟨8, by omega, rfl, (hbt.out.put a 7 v _ (by simp; omega) rfl).drew, (hof.out.setCell (fun _ => rfl) _).drew⟩, by simp [intOf]⟩
    · have e : c = k := by omega
      subst e
      go_wp2
      go_end0
      exact ⟨rfl, hbt.out, hof.out⟩
end Go.Proofs.YtaodcpdkobhmfaaDoor

namespace Go.Proofs.YtaodcpdkobhmfaaDoor
open Go Go.RowKit

theorem Core.bts {w : World} {s mb L : Nat} {m : MS} {gv ov : Value} (h : Core w s mb L m gv ov) : Bts w mb L m.M := ⟨h.byt, h.fb⟩

/-- Nothing of the machine has turned. -/
theorem Core.off {w w' : World} {s mb L : Nat} {m : MS} {gv ov : Value} (h : Core w s mb L m gv ov) {S : Nat → Prop} (ho : Off S w w') (hs : ¬ S s) (hb : ¬ S mb) : Core w' s mb L m gv ov := by
  have c : ∀ i, w'.cell? ⟨s, i, none⟩ = w.cell? ⟨s, i, none⟩ := fun i => ho.cell h.s0 hs
  have b : ∀ i, w'.cell? ⟨mb, i, none⟩ = w.cell? ⟨mb, i, none⟩ := fun i => ho.cell h.b0 hb
  exact { s0 := Nat.lt_of_lt_of_le h.s0 ho.size, b0 := Nat.lt_of_lt_of_le h.b0 ho.size, ne := h.ne, L1 := h.L1, reg := fun i hi => (c i).trans (h.reg i hi), mem := (c _).trans h.mem, pc := (c _).trans h.pc, giv := (c _).trans h.giv,
          way := (c _).trans h.way, cod := (c _).trans h.cod, out := (c _).trans h.out, byt := fun i hi => (b i).trans (h.byt i hi), fs := fun i => (ho.frozen h.s0 hs).trans (h.fs i), fb := fun i => (ho.frozen h.b0 hb).trans (h.fb i), M0 := h.M0 }

/-- The bytes have turned, and nothing else of it. -/
theorem Core.bytes {w w' : World} {s mb L : Nat} {m : MS} {gv ov : Value} (h : Core w s mb L m gv ov) (ho : Off (· = mb) w w') {M : Nat → Int} (hM : Bts w' mb L M) (h0 : ∀ i, i < L → 0 ≤ M i ∧ M i ≤ 255) : Core w' s mb L { m with M := M } gv ov := by
  have c : ∀ i, w'.cell? ⟨s, i, none⟩ = w.cell? ⟨s, i, none⟩ := fun i => ho.cell h.s0 h.ne
  exact { s0 := Nat.lt_of_lt_of_le h.s0 ho.size, b0 := Nat.lt_of_lt_of_le h.b0 ho.size, ne := h.ne, L1 := h.L1, reg := fun i hi => (c i).trans (h.reg i hi), mem := (c _).trans h.mem, pc := (c _).trans h.pc, giv := (c _).trans h.giv,
          way := (c _).trans h.way, cod := (c _).trans h.cod, out := (c _).trans h.out, byt := hM.c, fs := fun i => (ho.frozen h.s0 h.ne).trans (h.fs i), fb := hM.f, M0 := h0 }

theorem lay_range {M : Nat → Int} {L a k : Nat} {v : Int} (h : ∀ i, i < L → 0 ≤ M i ∧ M i ≤ 255) : ∀ i, i < L → 0 ≤ layTo M a v k i ∧ layTo M a v k i ≤ 255 := fun i hi => by
  unfold layTo
  split
  · omega
  · exact h i hi

theorem has_split {L : Nat} {a c : Int} (h : hasB L a c = true) : 0 ≤ a ∧ a % c = 0 ∧ a ≤ (L : Int) - c := by
  simp [hasB] at h
  omega

/-- What Load tells. -/
def loadV (L : Nat) (M : Nat → Int) (a : Int) : Int := if hasB L a 8 then wrap64 (gthTo M a.toNat 8) else 0
def loadE (L : Nat) (a : Int) : Value := if hasB L a 8 then .nilIface else errV 2

theorem load_yes (w : World) (s mb L : Nat) (m : MS) (gv ov : Value) (a : Int) (h : Core w s mb L m gv ov) (ha : hasB L a 8 = true) :
    Calls Tryd.prog 13 #[.pointer (some ⟨s, 0, none⟩), .int .i64 a] w fun e w' => e = .returned (.tuple #[.int .i64 (wrap64 (gthTo m.M a.toNat 8)), .nilIface]) ∧ w' = w := by
  obtain ⟨a0, a1, a2⟩ := has_split ha
  obtain ⟨a, rfl⟩ := Int.eq_ofNat_of_zero_le a0
  have HC : Hid (Core w s mb L m gv ov) := h
  have HA : Hid (hasB L a 8 = true) := ha
  clear h ha
  have rg := gth_range m.M a 8 (fun i hi => HC.out.M0 (a + i) (by omega))
  simp only [Int.toNat_natCast]
  have HG : Hid (Calls Tryd.prog 38 #[.pointer (some ⟨s, 0, none⟩), .int .i64 (a : Int), .int .i64 8] w fun e w' => e = .returned (.int .u64 (gthTo m.M a 8)) ∧ w' = w) := mgather_any w s mb L a 8 m.M (.inr rfl) HC.out.L1 (by omega) HC.out.mem HC.out.byt HC.out.M0
  generalize gthTo m.M a 8 = g at *
  go_enter Tryd.func13, Tryd.ntmps13
  go_wp2_with (first
    | (go_at_call 37; refine (has_any _ s mb L _ _ (.inr rfl) HC.out.L1 HC.out.mem).mono ?_; rw [HA.out]; rintro e w' ⟨rfl, rfl⟩)
    | (go_at_call 38; refine HG.out.mono ?_; rintro e w' ⟨rfl, rfl⟩))
  go_ret2
  exact ⟨rfl, rfl⟩

theorem load_no (w : World) (s mb L : Nat) (m : MS) (gv ov : Value) (a : Int) (h : Core w s mb L m gv ov) (ha : hasB L a 8 = false) :
    Calls Tryd.prog 13 #[.pointer (some ⟨s, 0, none⟩), .int .i64 a] w fun e w' => e = .returned (.tuple #[.int .i64 0, errV 2]) ∧ w' = w := by
  have HC : Hid (Core w s mb L m gv ov) := h
  have HA : Hid (hasB L a 8 = false) := ha
  clear h ha
  go_enter Tryd.func13, Tryd.ntmps13
  go_wp2_with (go_at_call 37; refine (has_any _ s mb L _ _ (.inr rfl) HC.out.L1 HC.out.mem).mono ?_; rw [HA.out]; rintro e w' ⟨rfl, rfl⟩)
  go_ret2
  exact ⟨rfl, rfl⟩

theorem store_yes (w : World) (s mb L : Nat) (m : MS) (gv ov : Value) (a v : Int) (h : Core w s mb L m gv ov) (ha : hasB L a 8 = true) :
    Calls Tryd.prog 14 #[.pointer (some ⟨s, 0, none⟩), .int .i64 a, .int .i64 v] w fun e w' => e = .returned .nilIface ∧ Core w' s mb L { m with M := layTo m.M a.toNat (v % 18446744073709551616) 8 } gv ov ∧ Off (· = mb) w w' := by
  obtain ⟨a0, a1, a2⟩ := has_split ha
  obtain ⟨a, rfl⟩ := Int.eq_ofNat_of_zero_le a0
  have HC : Hid (Core w s mb L m gv ov) := h
  have HA : Hid (hasB L a 8 = true) := ha
  clear h ha
  simp only [Int.toNat_natCast]
  have hu := Alu.u64_wrap v
  go_enter Tryd.func14, Tryd.ntmps14
  go_wp2_with (first
    | (go_at_call 37; refine (has_any _ s mb L _ _ (.inr rfl) HC.out.L1 HC.out.mem).mono ?_; rw [HA.out]; rintro e w' ⟨rfl, rfl⟩)
    | (go_at_call 26; refine (lay_any _ s mb L a 8 _ m.M (.inr rfl) HC.out.L1 (by omega) HC.out.mem HC.out.ne HC.out.s0 HC.out.bts (by omega) (by omega)).mono ?_; rintro e w' ⟨rfl, hb, ho⟩))
  go_ret
  exact ⟨rfl, HC.out.bytes ho hb (lay_range HC.out.M0), ho⟩

theorem store_no (w : World) (s mb L : Nat) (m : MS) (gv ov : Value) (a v : Int) (h : Core w s mb L m gv ov) (ha : hasB L a 8 = false) :
    Calls Tryd.prog 14 #[.pointer (some ⟨s, 0, none⟩), .int .i64 a, .int .i64 v] w fun e w' => e = .returned (errV 2) ∧ w' = w := by
  have HC : Hid (Core w s mb L m gv ov) := h
  have HA : Hid (hasB L a 8 = false) := ha
  clear h ha
  go_enter Tryd.func14, Tryd.ntmps14
  go_wp2_with (go_at_call 37; refine (has_any _ s mb L _ _ (.inr rfl) HC.out.L1 HC.out.mem).mono ?_; rw [HA.out]; rintro e w' ⟨rfl, rfl⟩)
  go_ret
  exact ⟨rfl, rfl⟩
end Go.Proofs.YtaodcpdkobhmfaaDoor
