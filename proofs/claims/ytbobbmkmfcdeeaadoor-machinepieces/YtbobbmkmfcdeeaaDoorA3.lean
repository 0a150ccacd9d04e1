/- Package word's numberFits, spread, gather, walked. -/
import Derived.Test.YtbobbmkmfcdeeaaDoorA2
namespace Go.Proofs.YtbobbmkmfcdeeaaDoor
open Go Go.RowKit

def Sh.lo (s : Sh) : Int := if s.sg then -(s.pw / 2) else 0
def Sh.hi (s : Sh) : Int := if s.sg then s.pw / 2 else s.pw
def nfB (n : Int) (s : Sh) : Bool := decide (s.lo ≤ n) && decide (n < s.hi) && (bits .and .i64 n (s.pz - 1) == 0)

set_option maxHeartbeats 400000 in
theorem numberFits_u (v : Bool) (n p q : Int) (cs : List Value) (wd zs : Int) (w : World) (hz : cs.length = 19) (g3 : ∀ h : 3 < cs.length, cs[3]'h = .bool false) (g4 : ∀ h : 4 < cs.length, cs[4]'h = .int .u8 wd) (g5 : ∀ h : 5 < cs.length, cs[5]'h = .int .u8 zs) (h0 : 0 ≤ wd) (h1 : wd ≤ 32) (h2 : 0 ≤ zs) (h3 : zs ≤ 32)
    (hp : (2 : Int) ^ wd.toNat = p) (hp1 : 1 ≤ p) (hp2 : p ≤ 4294967296) (hq : (2 : Int) ^ zs.toNat = q) (hq1 : 1 ≤ q) (hq2 : q ≤ 4294967296)
    (hv : v = (decide (0 ≤ n) && decide (n < p) && (bits .and .i64 n (q - 1) == 0))) :
    Calls Tryd.prog 69 #[.int .i64 n, .agg cs.toArray] w fun e w' => e = .returned (.bool v) ∧ Below w.heap.size w w' := by
  have HQ : Hid ((2 : Int) ^ zs.toNat = q) := hq
  have HV : Hid (v = (decide (0 ≤ n) && decide (n < p) && (bits .and .i64 n (q - 1) == 0))) := hv
  clear hq hv
  have hz' : cs.toArray.size = 19 := by simpa using hz
  go_enter Tryd.func69, Tryd.ntmps69
  go_wp2_with fail
  go_quiet (fail)
  go_wp2_with (go_at_call 70; refine (ones_any _ _ _ (by omega) (by omega) HQ.out hq1 hq2).mono ?_; rintro e w' ⟨rfl, rfl⟩)
  all_goals
    go_ret
    refine ⟨ret_bool ?_, below_drewN ((Below.refl _ _).alloc (Nat.le_refl _) _) _⟩
    rw [HV.out]
    simp
    try omega

set_option maxHeartbeats 400000 in
theorem numberFits_s (v : Bool) (n p q : Int) (cs : List Value) (wd zs : Int) (w : World) (hz : cs.length = 19) (g3 : ∀ h : 3 < cs.length, cs[3]'h = .bool true) (g4 : ∀ h : 4 < cs.length, cs[4]'h = .int .u8 wd) (g5 : ∀ h : 5 < cs.length, cs[5]'h = .int .u8 zs) (h0 : 0 ≤ wd) (h1 : wd ≤ 32) (h2 : 0 ≤ zs) (h3 : zs ≤ 32)
    (hp : (2 : Int) ^ wd.toNat = p) (hp1 : 1 ≤ p) (hp2 : p ≤ 4294967296) (hq : (2 : Int) ^ zs.toNat = q) (hq1 : 1 ≤ q) (hq2 : q ≤ 4294967296)
    (hv : v = (decide (-(p / 2) ≤ n) && decide (n < p / 2) && (bits .and .i64 n (q - 1) == 0))) :
    Calls Tryd.prog 69 #[.int .i64 n, .agg cs.toArray] w fun e w' => e = .returned (.bool v) ∧ Below w.heap.size w w' := by
  have HQ : Hid ((2 : Int) ^ zs.toNat = q) := hq
  have HV : Hid (v = (decide (-(p / 2) ≤ n) && decide (n < p / 2) && (bits .and .i64 n (q - 1) == 0))) := hv
  clear hq hv
  have hz' : cs.toArray.size = 19 := by simpa using hz
  go_enter Tryd.func69, Tryd.ntmps69
  go_wp2_with fail
  go_quiet (fail)
  go_wp2_with (go_at_call 70; refine (ones_any _ _ _ (by omega) (by omega) HQ.out hq1 hq2).mono ?_; rintro e w' ⟨rfl, rfl⟩)
  all_goals
    go_ret
    refine ⟨ret_bool ?_, below_drewN ((Below.refl _ _).alloc (Nat.le_refl _) _) _⟩
    rw [HV.out]
    simp
    try omega

theorem numberFits_any (n : Int) (cs : List Value) (s : Sh) (w : World) (hc : ShIs cs s) (hs : ShOk s) :
    Calls Tryd.prog 69 #[.int .i64 n, .agg cs.toArray] w fun e w' => e = .returned (.bool (nfB n s)) ∧ Below w.heap.size w w' := by
  cases hg : s.sg with
  | false => exact numberFits_u _ n s.pw s.pz cs s.wd s.zs w hc.len (fun h => by rw [hc.g3 h, hg]) hc.g4 hc.g5 hs.w0 hs.w1 hs.z0 hs.z1 hs.ew hs.pw1 hs.pw2 hs.ez hs.pz1 hs.pz2 (by simp [nfB, Sh.lo, Sh.hi, hg])
  | true => exact numberFits_s _ n s.pw s.pz cs s.wd s.zs w hc.len (fun h => by rw [hc.g3 h, hg]) hc.g4 hc.g5 hs.w0 hs.w1 hs.z0 hs.z1 hs.ew hs.pw1 hs.pw2 hs.ez hs.pz1 hs.pz2 (by simp [nfB, Sh.lo, Sh.hi, hg])

def spr (n s pf pt pc : Int) : Int := bits .or .u32 s (bits .and .i64 (n / pf) (pc - 1) % 4294967296 * pt % 4294967296)
def sprTo (n : Int) (ms : List (Int × Int × Int)) (k : Nat) : Int := (ms.take k).foldl (fun s m => spr n s m.1 m.2.1 m.2.2) 0
theorem idx0 (a0 a1 a2 a3 a4 a5 a6 a7 a8 a9 a10 a11 : Value) (w : World) : Sem.run Tryd.prog (Instr.index 115 (.agg #[a0, a1, a2, a3, a4, a5, a6, a7, a8, a9, a10, a11]) (.int .i64 0)) w = .ok (.agg #[a0, a1, a2]) w := by kernel_rfl
theorem idx1 (a0 a1 a2 a3 a4 a5 a6 a7 a8 a9 a10 a11 : Value) (w : World) : Sem.run Tryd.prog (Instr.index 115 (.agg #[a0, a1, a2, a3, a4, a5, a6, a7, a8, a9, a10, a11]) (.int .i64 1)) w = .ok (.agg #[a3, a4, a5]) w := by kernel_rfl
theorem idx2 (a0 a1 a2 a3 a4 a5 a6 a7 a8 a9 a10 a11 : Value) (w : World) : Sem.run Tryd.prog (Instr.index 115 (.agg #[a0, a1, a2, a3, a4, a5, a6, a7, a8, a9, a10, a11]) (.int .i64 2)) w = .ok (.agg #[a6, a7, a8]) w := by kernel_rfl
theorem idx3 (a0 a1 a2 a3 a4 a5 a6 a7 a8 a9 a10 a11 : Value) (w : World) : Sem.run Tryd.prog (Instr.index 115 (.agg #[a0, a1, a2, a3, a4, a5, a6, a7, a8, a9, a10, a11]) (.int .i64 3)) w = .ok (.agg #[a9, a10, a11]) w := by kernel_rfl
abbrev Sh.ms (s : Sh) : List (Int × Int × Int) := [(s.pf0, s.pt0, s.pc0), (s.pf1, s.pt1, s.pc1), (s.pf2, s.pt2, s.pc2), (s.pf3, s.pt3, s.pc3)]

set_option maxRecDepth 100000 in
set_option maxHeartbeats 1000000 in
theorem spread_core (n : Int) (cs : List Value) (w : World) (hz : cs.length = 19)
    (f0 t0 c0 pf0 pt0 pc0 f1 t1 c1 pf1 pt1 pc1 f2 t2 c2 pf2 pt2 pc2 f3 t3 c3 pf3 pt3 pc3 : Int)
    (g7 : ∀ h : 7 < cs.length, cs[7]'h = .int .u8 f0) (g8 : ∀ h : 8 < cs.length, cs[8]'h = .int .u8 t0) (g9 : ∀ h : 9 < cs.length, cs[9]'h = .int .u8 c0)
    (g10 : ∀ h : 10 < cs.length, cs[10]'h = .int .u8 f1) (g11 : ∀ h : 11 < cs.length, cs[11]'h = .int .u8 t1) (g12 : ∀ h : 12 < cs.length, cs[12]'h = .int .u8 c1)
    (g13 : ∀ h : 13 < cs.length, cs[13]'h = .int .u8 f2) (g14 : ∀ h : 14 < cs.length, cs[14]'h = .int .u8 t2) (g15 : ∀ h : 15 < cs.length, cs[15]'h = .int .u8 c2)
    (g16 : ∀ h : 16 < cs.length, cs[16]'h = .int .u8 f3) (g17 : ∀ h : 17 < cs.length, cs[17]'h = .int .u8 t3) (g18 : ∀ h : 18 < cs.length, cs[18]'h = .int .u8 c3)
    (m0 : Mv f0 t0 c0 pf0 pt0 pc0) (m1 : Mv f1 t1 c1 pf1 pt1 pc1) (m2 : Mv f2 t2 c2 pf2 pt2 pc2) (m3 : Mv f3 t3 c3 pf3 pt3 pc3) :
    Calls Tryd.prog 59 #[.int .i64 n, .agg cs.toArray] w fun e w' => e = .returned (.int .u32 (sprTo n [(pf0, pt0, pc0), (pf1, pt1, pc1), (pf2, pt2, pc2), (pf3, pt3, pc3)] 4)) ∧ Below w.heap.size w w' := by
  have hz' : cs.toArray.size = 19 := by simpa using hz
  go_enter Tryd.func59, Tryd.ntmps59
  go_wp2_with fail
  go_loopw [5, 10] (fun s i wr => ∃ (k : Nat) (z : Int), k ≤ 4 ∧ i = .int .i64 k ∧ s = .int .u32 z ∧ z = sprTo n [(pf0, pt0, pc0), (pf1, pt1, pc1), (pf2, pt2, pc2), (pf3, pt3, pc3)] k ∧ Below w.heap.size w wr) (fun _ i _ => 4 - (intOf i).toNat)
  case atStart => exact ⟨0, 0, by omega, rfl, rfl, rfl, (Below.refl _ _).alloc (Nat.le_refl _) _⟩
  case round =>
    obtain ⟨k, z, hk, rfl, rfl, hzk, hb⟩ := hrel
    have HZ : Hid (z = sprTo n [(pf0, pt0, pc0), (pf1, pt1, pc1), (pf2, pt2, pc2), (pf3, pt3, pc3)] k) := hzk
    clear hzk
    have hsz := hb.size
    have hk4 : k = 0 ∨ k = 1 ∨ k = 2 ∨ k = 3 ∨ k = 4 := by omega
    rcases hk4 with rfl | rfl | rfl | rfl | rfl
    · clear m1 m2 m3
      obtain ⟨a1, a2, a3, a4, a5, a6, a7, a8, a9, a10, a11⟩ := m0
      have hix := idx0
      go_wp2_with fail
      go_quiet ((go_at_call 70; exact Calls.quiet_of_same (ones_any _ _ _ a5 a6 a9 a10 a11)))
      go_wp2
      exact ⟨⟨1, _, by omega, rfl, rfl, by rw [HZ.out]; rfl, below_drewN (hb.alloc hsz _) _⟩, by simp [intOf]⟩
    · clear m0 m2 m3
      obtain ⟨a1, a2, a3, a4, a5, a6, a7, a8, a9, a10, a11⟩ := m1
      have hix := idx1
      go_wp2_with fail
      go_quiet ((go_at_call 70; exact Calls.quiet_of_same (ones_any _ _ _ a5 a6 a9 a10 a11)))
      go_wp2
      exact ⟨⟨2, _, by omega, rfl, rfl, by rw [HZ.out]; rfl, below_drewN (hb.alloc hsz _) _⟩, by simp [intOf]⟩
    · clear m0 m1 m3
      obtain ⟨a1, a2, a3, a4, a5, a6, a7, a8, a9, a10, a11⟩ := m2
      have hix := idx2
      go_wp2_with fail
      go_quiet ((go_at_call 70; exact Calls.quiet_of_same (ones_any _ _ _ a5 a6 a9 a10 a11)))
      go_wp2
      exact ⟨⟨3, _, by omega, rfl, rfl, by rw [HZ.out]; rfl, below_drewN (hb.alloc hsz _) _⟩, by simp [intOf]⟩
    · clear m0 m1 m2
      obtain ⟨a1, a2, a3, a4, a5, a6, a7, a8, a9, a10, a11⟩ := m3
      have hix := idx3
      go_wp2_with fail
      go_quiet ((go_at_call 70; exact Calls.quiet_of_same (ones_any _ _ _ a5 a6 a9 a10 a11)))
      go_wp2
      exact ⟨⟨4, _, by omega, rfl, rfl, by rw [HZ.out]; rfl, below_drewN (hb.alloc hsz _) _⟩, by simp [intOf]⟩
    · go_wp2
      go_ret
      exact ⟨ret_int HZ.out, hb⟩

def spreadV (n : Int) (s : Sh) : Int := sprTo n s.ms 4
theorem spread_any (n : Int) (cs : List Value) (s : Sh) (w : World) (hc : ShIs cs s) (hs : ShOk s) :
    Calls Tryd.prog 59 #[.int .i64 n, .agg cs.toArray] w fun e w' => e = .returned (.int .u32 (spreadV n s)) ∧ Below w.heap.size w w' :=
  spread_core n cs w hc.len s.f0 s.t0 s.c0 s.pf0 s.pt0 s.pc0 s.f1 s.t1 s.c1 s.pf1 s.pt1 s.pc1 s.f2 s.t2 s.c2 s.pf2 s.pt2 s.pc2 s.f3 s.t3 s.c3 s.pf3 s.pt3 s.pc3
    hc.g7 hc.g8 hc.g9 hc.g10 hc.g11 hc.g12 hc.g13 hc.g14 hc.g15 hc.g16 hc.g17 hc.g18 hs.m0 hs.m1 hs.m2 hs.m3
end Go.Proofs.YtbobbmkmfcdeeaaDoor
