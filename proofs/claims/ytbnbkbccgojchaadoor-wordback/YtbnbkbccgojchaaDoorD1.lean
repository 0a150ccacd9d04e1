/- WordParts, walked. -/
import Derived.Test.YtbnbkbccgojchaaDoorC2
namespace Go.Proofs.YtbnbkbccgojchaaDoor
open Go Go.RowKit

theorem Tabs.alloc {T : Tb} {w : World} (h : Tabs T w) (ob : Obj) : Tabs T (w.alloc ob) := h.below ((Below.refl _ _).alloc (Nat.le_refl _) _)

set_option maxHeartbeats 400000 in
theorem parts_err (o d a b n dd : Int) (w : World) (ht : Tabs T w) (hr : Rt o d a b n = false) :
    Calls Tryd.prog 5 #[instV o d a b n, .int .i64 dd] w fun e w' => e = .returned (.bool true) ∧ Below w.heap.size w w' := by
  have HT : Hid (Tabs T w) := ht
  clear ht
  go_enter Tryd.func5, Tryd.ntmps5
  go_wp2_with fail
  refine (worded_T _ (HT.out.alloc _)).mono ?_
  rintro e w1 ⟨rfl, hb1⟩
  have HB1 : Hid (Below w.heap.size w w1) := ((Below.refl _ _).alloc (Nat.le_refl _) _).trans (hb1.mono (by simp))
  obtain ⟨x0, x1, x2, x3, x4⟩ := box5 hb1
  clear hb1
  go_wp2_with fail
  refine (encode_err o d a b n _ (HT.out.below HB1.out) hr).mono ?_
  rintro e w2 ⟨rfl, hb2⟩
  have HB2 : Hid (Below w.heap.size w w2) := HB1.out.trans (hb2.mono HB1.out.size)
  clear hb2 x0 x1 x2 x3 x4
  go_wp2
  go_ret
  exact ⟨rfl, HB2.out⟩

set_option maxHeartbeats 400000 in
theorem parts_skip (o d a b n dd : Int) (w : World) (ht : Tabs T w) (hr : Rt o d a b n = true) (ho : o = 24 ∨ (25 ≤ o ∧ o ≤ 28) ∨ o = 31) :
    Calls Tryd.prog 5 #[instV o d a b n, .int .i64 dd] w fun e w' => e = .returned (.bool true) ∧ Below w.heap.size w w' := by
  rcases ho with rfl | ⟨ho1, ho2⟩ | rfl
  · have HT : Hid (Tabs T w) := ht
    clear ht
    go_enter Tryd.func5, Tryd.ntmps5
    go_wp2_with fail
    refine (worded_T _ (HT.out.alloc _)).mono ?_
    rintro e w1 ⟨rfl, hb1⟩
    have HB1 : Hid (Below w.heap.size w w1) := ((Below.refl _ _).alloc (Nat.le_refl _) _).trans (hb1.mono (by simp))
    have hz1 : w.heap.size < w1.heap.size := by have := hb1.size; simp at this; omega
    obtain ⟨x0, x1, x2, x3, x4⟩ := box5 hb1
    clear hb1
    go_wp2_with fail
    refine (encode_ok 24 d a b n _ (HT.out.below HB1.out) hr).mono ?_
    rintro e w2 ⟨rfl, hb2⟩
    have HB2 : Hid (Below w.heap.size w w2) := HB1.out.trans (hb2.mono HB1.out.size)
    have hz2 : w.heap.size < w2.heap.size := Nat.lt_of_lt_of_le hz1 hb2.size
    have y0 := (hb2.cell (p := ⟨w.heap.size, 0, none⟩) hz1).trans x0
    have y1 := (hb2.cell (p := ⟨w.heap.size, 1, none⟩) hz1).trans x1
    have y2 := (hb2.cell (p := ⟨w.heap.size, 2, none⟩) hz1).trans x2
    have y3 := (hb2.cell (p := ⟨w.heap.size, 3, none⟩) hz1).trans x3
    have y4 := (hb2.cell (p := ⟨w.heap.size, 4, none⟩) hz1).trans x4
    clear hb2 x0 x1 x2 x3 x4
    go_wp2
    go_ret
    exact ⟨rfl, HB2.out⟩
  · have h24 : (o == 24) = false := by simp; omega
    have HT : Hid (Tabs T w) := ht
    clear ht
    go_enter Tryd.func5, Tryd.ntmps5
    go_wp2_with fail
    refine (worded_T _ (HT.out.alloc _)).mono ?_
    rintro e w1 ⟨rfl, hb1⟩
    have HB1 : Hid (Below w.heap.size w w1) := ((Below.refl _ _).alloc (Nat.le_refl _) _).trans (hb1.mono (by simp))
    have hz1 : w.heap.size < w1.heap.size := by have := hb1.size; simp at this; omega
    obtain ⟨x0, x1, x2, x3, x4⟩ := box5 hb1
    clear hb1
    go_wp2_with fail
    refine (encode_ok o d a b n _ (HT.out.below HB1.out) hr).mono ?_
    rintro e w2 ⟨rfl, hb2⟩
    have HB2 : Hid (Below w.heap.size w w2) := HB1.out.trans (hb2.mono HB1.out.size)
    have hz2 : w.heap.size < w2.heap.size := Nat.lt_of_lt_of_le hz1 hb2.size
    have y0 := (hb2.cell (p := ⟨w.heap.size, 0, none⟩) hz1).trans x0
    have y1 := (hb2.cell (p := ⟨w.heap.size, 1, none⟩) hz1).trans x1
    have y2 := (hb2.cell (p := ⟨w.heap.size, 2, none⟩) hz1).trans x2
    have y3 := (hb2.cell (p := ⟨w.heap.size, 3, none⟩) hz1).trans x3
    have y4 := (hb2.cell (p := ⟨w.heap.size, 4, none⟩) hz1).trans x4
    clear hb2 x0 x1 x2 x3 x4
    go_wp2
    go_ret
    exact ⟨rfl, HB2.out⟩
  · have HT : Hid (Tabs T w) := ht
    clear ht
    go_enter Tryd.func5, Tryd.ntmps5
    go_wp2_with fail
    refine (worded_T _ (HT.out.alloc _)).mono ?_
    rintro e w1 ⟨rfl, hb1⟩
    have HB1 : Hid (Below w.heap.size w w1) := ((Below.refl _ _).alloc (Nat.le_refl _) _).trans (hb1.mono (by simp))
    have hz1 : w.heap.size < w1.heap.size := by have := hb1.size; simp at this; omega
    obtain ⟨x0, x1, x2, x3, x4⟩ := box5 hb1
    clear hb1
    go_wp2_with fail
    refine (encode_ok 31 d a b n _ (HT.out.below HB1.out) hr).mono ?_
    rintro e w2 ⟨rfl, hb2⟩
    have HB2 : Hid (Below w.heap.size w w2) := HB1.out.trans (hb2.mono HB1.out.size)
    have hz2 : w.heap.size < w2.heap.size := Nat.lt_of_lt_of_le hz1 hb2.size
    have y0 := (hb2.cell (p := ⟨w.heap.size, 0, none⟩) hz1).trans x0
    have y1 := (hb2.cell (p := ⟨w.heap.size, 1, none⟩) hz1).trans x1
    have y2 := (hb2.cell (p := ⟨w.heap.size, 2, none⟩) hz1).trans x2
    have y3 := (hb2.cell (p := ⟨w.heap.size, 3, none⟩) hz1).trans x3
    have y4 := (hb2.cell (p := ⟨w.heap.size, 4, none⟩) hz1).trans x4
    clear hb2 x0 x1 x2 x3 x4
    go_wp2
    go_ret
    exact ⟨rfl, HB2.out⟩

theorem parts_math (o d a b n dd : Int) (hr : Rt o d a b n = true) (h24 : o ≠ 24) (h31 : o ≠ 31) (ho : o < 25 ∨ 28 < o) :
    Rt o (dd % 32) a b n = true ∧ (Wd o (dd % 32) a b n - Wd o d a b n) % 4294967296 = wrap64 (dd % 32 - d) % 4294967296 * 128 % 4294967296 ∧
      bits .and .u32 (Wd o d a b n) 127 = bits .and .u32 (Wd o (dd % 32) a b n) 127 := by
  obtain ⟨h1, h2, h3⟩ := Rt_split hr
  obtain ⟨k, rfl⟩ := Int.eq_ofNat_of_zero_le (show 0 ≤ o by omega)
  rw [Int.toNat_natCast] at h3
  obtain ⟨R, hR, hR2, ⟨d0, d1⟩, hE⟩ := part_all k (by omega) (by omega) (by omega) (by omega) (by omega) d a b n h3
  have h4 := right_rd k (by omega) (by omega) (by omega) (by omega) (by omega) d (dd % 32) a b n h3 (by omega) (by omega)
  obtain ⟨d, rfl⟩ := Int.eq_ofNat_of_zero_le d0
  obtain ⟨q, hq⟩ := Int.eq_ofNat_of_zero_le (show 0 ≤ dd % 32 by omega)
  rw [hq] at h4 ⊢
  have q1 : q < 32 := by omega
  have q2 : d < 32 := by omega
  have e1 : Wd (k : Int) (d : Int) a b n = ((R + d * 128 : Nat) : Int) := by
    unfold Wd; rw [Int.toNat_natCast]; exact hE d q2
  have e2 : Wd (k : Int) (q : Int) a b n = ((R + q * 128 : Nat) : Int) := by
    unfold Wd; rw [Int.toNat_natCast]; exact hE q q1
  refine ⟨?_, ?_, ?_⟩
  · unfold Rt
    rw [Int.toNat_natCast, h4]
    simp
    omega
  · rw [e1, e2, wrap_in _ (by omega)]
    omega
  · rw [e1, e2]
    have b1 : bits .and .u32 ((R + d * 128 : Nat) : Int) ((127 : Nat) : Int) = _ := andN _ _ (by omega) (by omega)
    have b2 : bits .and .u32 ((R + q * 128 : Nat) : Int) ((127 : Nat) : Int) = _ := andN _ _ (by omega) (by omega)
    refine b1.trans (Eq.trans ?_ b2.symm)
    rw [a_low, a_low]
    omega

set_option maxHeartbeats 400000 in
theorem parts_go (o d a b n dd : Int) (w : World) (ht : Tabs T w) (hr : Rt o d a b n = true) (h24 : (o == 24) = false) (h31 : (o == 31) = false) (ho : o < 25 ∨ 28 < o) (hr2 : Rt o (dd % 32) a b n = true) :
    Calls Tryd.prog 5 #[instV o d a b n, .int .i64 dd] w fun e w' => e = .returned (.bool true) ∧ Below w.heap.size w w' := by
  obtain ⟨_, me, mb⟩ := parts_math o d a b n dd hr (by simpa using h24) (by simpa using h31) ho
  have ME : Hid ((Wd o (dd % 32) a b n - Wd o d a b n) % 4294967296 = wrap64 (dd % 32 - d) % 4294967296 * 128 % 4294967296) := me
  have MB : Hid (bits .and .u32 (Wd o d a b n) 127 = bits .and .u32 (Wd o (dd % 32) a b n) 127) := mb
  clear me mb
  rcases ho with ho | ho
  · have HT : Hid (Tabs T w) := ht
    clear ht
    go_enter Tryd.func5, Tryd.ntmps5
    go_wp2_with fail
    refine (worded_T _ (HT.out.alloc _)).mono ?_
    rintro e w1 ⟨rfl, hb1⟩
    have HB1 : Hid (Below w.heap.size w w1) := ((Below.refl _ _).alloc (Nat.le_refl _) _).trans (hb1.mono (by simp))
    have hz1 : w.heap.size < w1.heap.size := by have := hb1.size; simp at this; omega
    obtain ⟨x0, x1, x2, x3, x4⟩ := box5 hb1
    clear hb1
    go_wp2_with fail
    refine (encode_ok o d a b n _ (HT.out.below HB1.out) hr).mono ?_
    rintro e w2 ⟨rfl, hb2⟩
    have HB2 : Hid (Below w.heap.size w w2) := HB1.out.trans (hb2.mono HB1.out.size)
    have hz2 : w.heap.size < w2.heap.size := Nat.lt_of_lt_of_le hz1 hb2.size
    have y0 := (hb2.cell (p := ⟨w.heap.size, 0, none⟩) hz1).trans x0
    have y1 := (hb2.cell (p := ⟨w.heap.size, 1, none⟩) hz1).trans x1
    have y2 := (hb2.cell (p := ⟨w.heap.size, 2, none⟩) hz1).trans x2
    have y3 := (hb2.cell (p := ⟨w.heap.size, 3, none⟩) hz1).trans x3
    have y4 := (hb2.cell (p := ⟨w.heap.size, 4, none⟩) hz1).trans x4
    clear hb2 x0 x1 x2 x3 x4
    go_wp2_with fail
    refine (pick_any dd _).mono ?_
    rintro e w3 ⟨rfl, hw3⟩
    replace hw3 := hw3.symm
    subst hw3
    go_wp2_with fail
    refine (encode_ok o (dd % 32) a b n _ ((HT.out.below HB2.out).alloc _) hr2).mono ?_
    rintro e w4 ⟨rfl, hb4⟩
    obtain ⟨u0, u1, u2, u3, u4⟩ := box5 hb4
    have HB4 : Hid (Below w.heap.size w w4) := (HB2.out.alloc (by omega) _).trans (hb4.mono (by simp; omega))
    have v1 : w4.cell? ⟨w.heap.size, 1, none⟩ = some (.int .i64 d) := by
      rw [hb4.cell (p := ⟨w.heap.size, 1, none⟩) (by simp; omega), World.cell?_alloc_lt _ _ _ (show _ < _ from hz2)]; exact y1
    clear hb4 y0 y1 y2 y3 y4 u0 u2 u3 u4
    go_wp2
    go_ret
    exact ⟨ret_bool (by rw [MB.out]; simp), HB4.out⟩
  · have HT : Hid (Tabs T w) := ht
    clear ht
    go_enter Tryd.func5, Tryd.ntmps5
    go_wp2_with fail
    refine (worded_T _ (HT.out.alloc _)).mono ?_
    rintro e w1 ⟨rfl, hb1⟩
    have HB1 : Hid (Below w.heap.size w w1) := ((Below.refl _ _).alloc (Nat.le_refl _) _).trans (hb1.mono (by simp))
    have hz1 : w.heap.size < w1.heap.size := by have := hb1.size; simp at this; omega
    obtain ⟨x0, x1, x2, x3, x4⟩ := box5 hb1
    clear hb1
    go_wp2_with fail
    refine (encode_ok o d a b n _ (HT.out.below HB1.out) hr).mono ?_
    rintro e w2 ⟨rfl, hb2⟩
    have HB2 : Hid (Below w.heap.size w w2) := HB1.out.trans (hb2.mono HB1.out.size)
    have hz2 : w.heap.size < w2.heap.size := Nat.lt_of_lt_of_le hz1 hb2.size
    have y0 := (hb2.cell (p := ⟨w.heap.size, 0, none⟩) hz1).trans x0
    have y1 := (hb2.cell (p := ⟨w.heap.size, 1, none⟩) hz1).trans x1
    have y2 := (hb2.cell (p := ⟨w.heap.size, 2, none⟩) hz1).trans x2
    have y3 := (hb2.cell (p := ⟨w.heap.size, 3, none⟩) hz1).trans x3
    have y4 := (hb2.cell (p := ⟨w.heap.size, 4, none⟩) hz1).trans x4
    clear hb2 x0 x1 x2 x3 x4
    go_wp2_with fail
    refine (pick_any dd _).mono ?_
    rintro e w3 ⟨rfl, hw3⟩
    replace hw3 := hw3.symm
    subst hw3
    go_wp2_with fail
    refine (encode_ok o (dd % 32) a b n _ ((HT.out.below HB2.out).alloc _) hr2).mono ?_
    rintro e w4 ⟨rfl, hb4⟩
    obtain ⟨u0, u1, u2, u3, u4⟩ := box5 hb4
    have HB4 : Hid (Below w.heap.size w w4) := (HB2.out.alloc (by omega) _).trans (hb4.mono (by simp; omega))
    have v1 : w4.cell? ⟨w.heap.size, 1, none⟩ = some (.int .i64 d) := by
      rw [hb4.cell (p := ⟨w.heap.size, 1, none⟩) (by simp; omega), World.cell?_alloc_lt _ _ _ (show _ < _ from hz2)]; exact y1
    clear hb4 y0 y1 y2 y3 y4 u0 u2 u3 u4
    go_wp2
    go_ret
    exact ⟨ret_bool (by rw [MB.out]; simp), HB4.out⟩

/-- WordParts: true at all arguments; nothing that was there has turned. -/
theorem parts_all (o d a b n dd : Int) (w : World) (ht : Tabs T w) :
    Calls Tryd.prog 5 #[instV o d a b n, .int .i64 dd] w fun e w' => e = .returned (.bool true) ∧ Below w.heap.size w w' := by
  cases hr : Rt o d a b n with
  | false => exact parts_err o d a b n dd w ht hr
  | true =>
    by_cases ho : o = 24 ∨ (25 ≤ o ∧ o ≤ 28) ∨ o = 31
    · exact parts_skip o d a b n dd w ht hr ho
    · exact parts_go o d a b n dd w ht hr (by simp; omega) (by simp; omega) (by omega) (parts_math o d a b n dd hr (by omega) (by omega) (by omega)).1
end Go.Proofs.YtbnbkbccgojchaaDoor
