/- Package word's numberFits, spread, gather, walked. -/
import Derived.Test.YtjjjdplgdlaihaaGreatDoorA2
namespace Go.Proofs.YtjjjdplgdlaihaaGreatDoor
open Go Go.RowKit

def Sh.lo (s : Sh) : Int := if s.sg then -(s.pw / 2) else 0
def Sh.hi (s : Sh) : Int := if s.sg then s.pw / 2 else s.pw
def nfB (n : Int) (s : Sh) : Bool := decide (s.lo ≤ n) && decide (n < s.hi) && (bits .and .i64 n (s.pz - 1) == 0)

set_option maxHeartbeats 400000 in
theorem numberFits_u (v : Bool) (n p q : Int) (cs : List Value) (wd zs : Int) (w : World) (hz : cs.length = 19) (g3 : ∀ h : 3 < cs.length, cs[3]'h = .bool false) (g4 : ∀ h : 4 < cs.length, cs[4]'h = .int .u8 wd) (g5 : ∀ h : 5 < cs.length, cs[5]'h = .int .u8 zs) (h0 : 0 ≤ wd) (h1 : wd ≤ 32) (h2 : 0 ≤ zs) (h3 : zs ≤ 32)
    (hp : (2 : Int) ^ wd.toNat = p) (hp1 : 1 ≤ p) (hp2 : p ≤ 4294967296) (hq : (2 : Int) ^ zs.toNat = q) (hq1 : 1 ≤ q) (hq2 : q ≤ 4294967296)
    (hv : v = (decide (0 ≤ n) && decide (n < p) && (bits .and .i64 n (q - 1) == 0))) :
    Calls Tryz.prog 72 #[.int .i64 n, .agg cs.toArray] w fun e w' => e = .returned (.bool v) ∧ Below w.heap.size w w' := by
  have HQ : Hid ((2 : Int) ^ zs.toNat = q) := hq
  have HV : Hid (v = (decide (0 ≤ n) && decide (n < p) && (bits .and .i64 n (q - 1) == 0))) := hv
  clear hq hv
  have hz' : cs.toArray.size = 19 := by simpa using hz
  go_enter Tryz.func72, Tryz.ntmps72
  go_wp2_with fail
  go_quiet (fail)
  go_wp2_with (go_at_call 97; refine (ones_any _ _ _ (by omega) (by omega) HQ.out hq1 hq2).mono ?_; rintro e w' ⟨rfl, rfl⟩)
  all_goals
    go_ret
    refine ⟨ret_bool ?_, below_drewN ((Below.refl _ _).alloc (Nat.le_refl _) _) _⟩
    rw [HV.out]
    simp
    try omega

set_option maxHeartbeats 400000 in
theorem numberFits_s (v : Bool) (n p q : Int) (cs : List Value) (wd zs : Int) (w : World) (hz : cs.length = 19) (g3 : ∀ h : 3 < cs.length, cs[3]'h = .bool true) (g4 : ∀ h : 4 < cs.length, cs[4]'h = .int .u8 wd) (g5 : ∀ h : 5 < cs.length, cs[5]'h = .int .u8 zs) (h0 : 0 ≤ wd) (h1 : wd ≤ 32) (h2 : 0 ≤ zs) (h3 : zs ≤ 32)
    (hp : (2 : Int) ^ wd.toNat = p) (hp1 : 1 ≤ p) (hp2 : p ≤ 4294967296) (hq : (2 : Int) ^ zs.toNat = q) (hq1 : 1 ≤ q) (hq2 : q ≤ 4294967296)
    (hv : v = (decide (-(p / 2) ≤ n) && decide (n < p / 2) && (bits .and .i64 n (q - 1) == 0))) :
    Calls Tryz.prog 72 #[.int .i64 n, .agg cs.toArray] w fun e w' => e = .returned (.bool v) ∧ Below w.heap.size w w' := by
  have HQ : Hid ((2 : Int) ^ zs.toNat = q) := hq
  have HV : Hid (v = (decide (-(p / 2) ≤ n) && decide (n < p / 2) && (bits .and .i64 n (q - 1) == 0))) := hv
  clear hq hv
  have hz' : cs.toArray.size = 19 := by simpa using hz
  go_enter Tryz.func72, Tryz.ntmps72
  go_wp2_with fail
  go_quiet (fail)
  go_wp2_with (go_at_call 97; refine (ones_any _ _ _ (by omega) (by omega) HQ.out hq1 hq2).mono ?_; rintro e w' ⟨rfl, rfl⟩)
  all_goals
    go_ret
    refine ⟨ret_bool ?_, below_drewN ((Below.refl _ _).alloc (Nat.le_refl _) _) _⟩
    rw [HV.out]
    simp
    try omega

theorem numberFits_any (n : Int) (cs : List Value) (s : Sh) (w : World) (hc : ShIs cs s) (hs : ShOk s) :
    Calls Tryz.prog 72 #[.int .i64 n, .agg cs.toArray] w fun e w' => e = .returned (.bool (nfB n s)) ∧ Below w.heap.size w w' := by
  cases hg : s.sg with
  | false => exact numberFits_u _ n s.pw s.pz cs s.wd s.zs w hc.len (fun h => by rw [hc.g3 h, hg]) hc.g4 hc.g5 hs.w0 hs.w1 hs.z0 hs.z1 hs.ew hs.pw1 hs.pw2 hs.ez hs.pz1 hs.pz2 (by simp [nfB, Sh.lo, Sh.hi, hg])
  | true => exact numberFits_s _ n s.pw s.pz cs s.wd s.zs w hc.len (fun h => by rw [hc.g3 h, hg]) hc.g4 hc.g5 hs.w0 hs.w1 hs.z0 hs.z1 hs.ew hs.pw1 hs.pw2 hs.ez hs.pz1 hs.pz2 (by simp [nfB, Sh.lo, Sh.hi, hg])

end Go.Proofs.YtjjjdplgdlaihaaGreatDoor
