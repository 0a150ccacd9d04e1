/- The fact 'worded', walked: it holds. -/
import Derived.Test.YtbnbkbccgojchaaDoorC1
namespace Go.Proofs.YtbnbkbccgojchaaDoor
open Go Go.RowKit

theorem rt1 : Rt 14 1 2 0 (-1) = true := by decide +kernel
theorem wd1 : Wd 14 1 2 0 (-1) = 4293984403 := by decide +kernel
theorem rt2 : Rt 23 0 1 0 0 = true := by decide +kernel
theorem wd2 : Wd 23 0 1 0 0 = 32871 := by decide +kernel

theorem encode_14 (w : World) (ht : Tabs T w) :
    Calls Tryd.prog 7 #[.agg #[.int .i64 14, .int .i64 1, .int .i64 2, .int .i64 0, .int .i64 (-1)]] w fun e w' => e = .returned (.tuple #[.int .u32 4293984403, .nilIface]) ∧ Below w.heap.size w w' := by
  have h := encode_ok 14 1 2 0 (-1) w ht rt1
  rw [wd1] at h
  exact h
theorem decode_23 (w : World) (ht : Tabs T w) :
    Calls Tryd.prog 12 #[.int .u32 32871] w fun e w' => e = .returned (.tuple #[.agg #[.int .i64 23, .int .i64 0, .int .i64 1, .int .i64 0, .int .i64 0], .nilIface]) ∧ Below w.heap.size w w' := by
  have h := decode_back 23 0 1 0 0 w ht rt2
  rw [wd2] at h
  exact h

set_option maxHeartbeats 400000 in
theorem worded_T (w : World) (ht : Tabs T w) : Calls Tryd.prog 13 #[] w fun e w' => e = .returned (.bool true) ∧ Below w.heap.size w w' := by
  have HT : Hid (Tabs T w) := ht
  clear ht
  go_enter Tryd.func13, Tryd.ntmps13
  go_wp2_with fail
  refine (encode_14 _ HT.out).mono ?_
  rintro e w1 ⟨rfl, hb1⟩
  have HB1 : Hid (Below w.heap.size w w1) := hb1
  clear hb1
  go_wp2_with fail
  refine (decode_23 _ (HT.out.below HB1.out)).mono ?_
  rintro e w2 ⟨rfl, hb2⟩
  have HB2 : Hid (Below w.heap.size w w2) := HB1.out.trans (hb2.mono HB1.out.size)
  clear hb2
  go_wp2
  go_ret
  exact ⟨rfl, HB2.out.alloc HB2.out.size _⟩
end Go.Proofs.YtbnbkbccgojchaaDoor
