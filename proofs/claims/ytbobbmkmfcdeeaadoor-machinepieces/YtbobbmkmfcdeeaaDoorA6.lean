/- Package word's gather, walked. -/
import Derived.Test.YtbobbmkmfcdeeaaDoorA3
namespace Go.Proofs.YtbobbmkmfcdeeaaDoor
open Go Go.RowKit

def gat (x z pf pt pc : Int) : Int := bits .or .i64 z (wrap64 (bits .and .i64 (x / pt) (pc - 1) * pf))
def gatTo (x : Int) (ms : List (Int × Int × Int)) (k : Nat) : Int := (ms.take k).foldl (fun s m => gat x s m.1 m.2.1 m.2.2) 0

def sgV (sg : Bool) (z ph pw : Int) : Int := if sg && z / ph != 0 then wrap64 (z - pw) else z

set_option maxRecDepth 100000 in
set_option maxHeartbeats 1000000 in
theorem gather_core (x : Int) (cs : List Value) (w : World) (hz : cs.length = 19) (hx0 : 0 ≤ x) (hx1 : x < 4294967296)
    (sg : Bool) (wd pw ph : Int)
    (f0 t0 c0 pf0 pt0 pc0 f1 t1 c1 pf1 pt1 pc1 f2 t2 c2 pf2 pt2 pc2 f3 t3 c3 pf3 pt3 pc3 : Int)
    (g3 : ∀ h : 3 < cs.length, cs[3]'h = .bool sg) (g4 : ∀ h : 4 < cs.length, cs[4]'h = .int .u8 wd)
    (g7 : ∀ h : 7 < cs.length, cs[7]'h = .int .u8 f0) (g8 : ∀ h : 8 < cs.length, cs[8]'h = .int .u8 t0) (g9 : ∀ h : 9 < cs.length, cs[9]'h = .int .u8 c0)
    (g10 : ∀ h : 10 < cs.length, cs[10]'h = .int .u8 f1) (g11 : ∀ h : 11 < cs.length, cs[11]'h = .int .u8 t1) (g12 : ∀ h : 12 < cs.length, cs[12]'h = .int .u8 c1)
    (g13 : ∀ h : 13 < cs.length, cs[13]'h = .int .u8 f2) (g14 : ∀ h : 14 < cs.length, cs[14]'h = .int .u8 t2) (g15 : ∀ h : 15 < cs.length, cs[15]'h = .int .u8 c2)
    (g16 : ∀ h : 16 < cs.length, cs[16]'h = .int .u8 f3) (g17 : ∀ h : 17 < cs.length, cs[17]'h = .int .u8 t3) (g18 : ∀ h : 18 < cs.length, cs[18]'h = .int .u8 c3)
    (m0 : Mv f0 t0 c0 pf0 pt0 pc0) (m1 : Mv f1 t1 c1 pf1 pt1 pc1) (m2 : Mv f2 t2 c2 pf2 pt2 pc2) (m3 : Mv f3 t3 c3 pf3 pt3 pc3)
    (hsg : sg = true → 1 ≤ wd ∧ wd ≤ 32 ∧ (2 : Int) ^ (wd.toNat - 1) = ph ∧ (2 : Int) ^ wd.toNat = pw ∧ 1 ≤ pw ∧ pw ≤ 4294967296) :
    Calls Tryd.prog 73 #[.int .u32 x, .agg cs.toArray] w fun e w' => e = .returned (.int .i64 (sgV sg (gatTo x [(pf0, pt0, pc0), (pf1, pt1, pc1), (pf2, pt2, pc2), (pf3, pt3, pc3)] 4) ph pw)) ∧ Below w.heap.size w w' := by
  have hz' : cs.toArray.size = 19 := by simpa using hz
  go_enter Tryd.func73, Tryd.ntmps73
  go_wp2_with fail
  go_loopw [5, 10] (fun s i wr => ∃ (k : Nat) (z : Int), k ≤ 4 ∧ i = .int .i64 k ∧ s = .int .i64 z ∧ z = gatTo x [(pf0, pt0, pc0), (pf1, pt1, pc1), (pf2, pt2, pc2), (pf3, pt3, pc3)] k ∧ Below (w.heap.size + 1) (w.alloc (.cells cs.toArray 117)) wr) (fun _ i _ => 4 - (intOf i).toNat)
  case atStart => exact ⟨0, 0, by omega, rfl, rfl, rfl, Below.refl _ _⟩
  case round =>
    obtain ⟨k, z, hk, rfl, rfl, hzk, hb⟩ := hrel
    have HZ : Hid (z = gatTo x [(pf0, pt0, pc0), (pf1, pt1, pc1), (pf2, pt2, pc2), (pf3, pt3, pc3)] k) := hzk
    clear hzk
    have hsz := hb.size
    simp at hsz
    have hk4 : k = 0 ∨ k = 1 ∨ k = 2 ∨ k = 3 ∨ k = 4 := by omega
    rcases hk4 with rfl | rfl | rfl | rfl | rfl
    · clear m1 m2 m3
      obtain ⟨a1, a2, a3, a4, a5, a6, a7, a8, a9, a10, a11⟩ := m0
      have hix := idx0
      go_wp2_with fail
      go_quiet ((go_at_call 70; exact Calls.quiet_of_same (ones_any _ _ _ a5 a6 a9 a10 a11)))
      go_wp2
      exact ⟨⟨1, _, by omega, rfl, rfl, by rw [HZ.out]; rfl, below_drewN (hb.alloc hsz _) _⟩, by simp [intOf]⟩
    · clear m0 m2 m3
      obtain ⟨a1, a2, a3, a4, a5, a6, a7, a8, a9, a10, a11⟩ := m1
      have hix := idx1
      go_wp2_with fail
      go_quiet ((go_at_call 70; exact Calls.quiet_of_same (ones_any _ _ _ a5 a6 a9 a10 a11)))
      go_wp2
      exact ⟨⟨2, _, by omega, rfl, rfl, by rw [HZ.out]; rfl, below_drewN (hb.alloc hsz _) _⟩, by simp [intOf]⟩
    · clear m0 m1 m3
      obtain ⟨a1, a2, a3, a4, a5, a6, a7, a8, a9, a10, a11⟩ := m2
      have hix := idx2
      go_wp2_with fail
      go_quiet ((go_at_call 70; exact Calls.quiet_of_same (ones_any _ _ _ a5 a6 a9 a10 a11)))
      go_wp2
      exact ⟨⟨3, _, by omega, rfl, rfl, by rw [HZ.out]; rfl, below_drewN (hb.alloc hsz _) _⟩, by simp [intOf]⟩
    · clear m0 m1 m2
      obtain ⟨a1, a2, a3, a4, a5, a6, a7, a8, a9, a10, a11⟩ := m3
      have hix := idx3
      go_wp2_with fail
      go_quiet ((go_at_call 70; exact Calls.quiet_of_same (ones_any _ _ _ a5 a6 a9 a10 a11)))
      go_wp2
      exact ⟨⟨4, _, by omega, rfl, rfl, by rw [HZ.out]; rfl, below_drewN (hb.alloc hsz _) _⟩, by simp [intOf]⟩
    · have q3 : wr.cell? ⟨w.heap.size, 3, none⟩ = some (.bool sg) := by
        rw [hb.cell (p := ⟨w.heap.size, 3, none⟩) (Nat.lt_succ_self _), cell_of_row _ _ _ _ _ _ (heap_alloc_last w _)]
        simp [hz, g3]
      have q4 : wr.cell? ⟨w.heap.size, 4, none⟩ = some (.int .u8 wd) := by
        rw [hb.cell (p := ⟨w.heap.size, 4, none⟩) (Nat.lt_succ_self _), cell_of_row _ _ _ _ _ _ (heap_alloc_last w _)]
        simp [hz, g4]
      clear m0 m1 m2 m3
      have HB : Hid (Below w.heap.size w wr) := ((Below.refl _ _).alloc (Nat.le_refl _) _).trans (hb.mono (by omega))
      clear hb
      cases sg
      · go_wp2
        go_ret
        exact ⟨ret_int (by rw [HZ.out]; simp [sgV]), HB.out⟩
      · obtain ⟨v1, v2, v3, v4, v5, v6⟩ := hsg rfl
        clear hsg
        by_cases hq : z / ph = 0
        · have hq' : (z / ph != 0) = false := by simp [hq]
          clear hq
          go_wp2
          go_ret
          exact ⟨ret_int (by rw [← HZ.out]; simp [sgV, hq']), HB.out⟩
        · have hq' : (z / ph != 0) = true := by simp [hq]
          clear hq
          go_wp2
          go_ret
          exact ⟨ret_int (by rw [← HZ.out]; simp [sgV, hq']), HB.out⟩

def gatherV (x ph : Int) (s : Sh) : Int := sgV s.sg (gatTo x s.ms 4) ph s.pw
theorem gather_any (x ph : Int) (cs : List Value) (s : Sh) (w : World) (hx0 : 0 ≤ x) (hx1 : x < 4294967296) (hc : ShIs cs s) (hs : ShOk s) (hp : s.sg = true → (2 : Int) ^ (s.wd.toNat - 1) = ph) :
    Calls Tryd.prog 73 #[.int .u32 x, .agg cs.toArray] w fun e w' => e = .returned (.int .i64 (gatherV x ph s)) ∧ Below w.heap.size w w' :=
  gather_core x cs w hc.len hx0 hx1 s.sg s.wd s.pw ph s.f0 s.t0 s.c0 s.pf0 s.pt0 s.pc0 s.f1 s.t1 s.c1 s.pf1 s.pt1 s.pc1 s.f2 s.t2 s.c2 s.pf2 s.pt2 s.pc2 s.f3 s.t3 s.c3 s.pf3 s.pt3 s.pc3
    hc.g3 hc.g4 hc.g7 hc.g8 hc.g9 hc.g10 hc.g11 hc.g12 hc.g13 hc.g14 hc.g15 hc.g16 hc.g17 hc.g18 hs.m0 hs.m1 hs.m2 hs.m3 (fun h => ⟨hs.sw h, hs.w1, hp h, hs.ew, hs.pw1, hs.pw2⟩)
end Go.Proofs.YtbobbmkmfcdeeaaDoor
