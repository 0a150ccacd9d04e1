/- A word is one instruction: the words of kinds 1 to 7. -/
import Derived.Test.YtchankbdfkgdiaaDoorK5
namespace Go.Proofs.YtchankbdfkgdiaaDoor
open Go Go.RowKit

theorem encK1 (l m : Nat) (hl : l < 128) (hm : m < 8) (d a b n : Int) (hr : rightB d a b n sh1 = true) : ∃ W, EncIs 1 l m 0 d a b n W := by
  simp only [rightB, Bool.and_eq_true] at hr
  obtain ⟨⟨⟨h1, h2⟩, h3⟩, h4⟩ := hr
  obtain ⟨d0, d1⟩ := fit_t d h1
  obtain ⟨a0, a1⟩ := fit_t a h2
  obtain rfl := fit_f b h3
  rw [nf_iff n sh1 0 (by omega) rfl] at h4
  obtain ⟨n0, n1, n2⟩ := h4
  replace n0 : (-2048 : Int) ≤ n := n0
  replace n1 : n < 2048 := n1
  replace n2 : n % 1 = 0 := n2
  obtain ⟨d, rfl⟩ := Int.eq_ofNat_of_zero_le d0
  obtain ⟨a, rfl⟩ := Int.eq_ofNat_of_zero_le a0
  obtain ⟨e1, w1⟩ := ob2 l m hl hm
  replace e1 : obV (l : Int) (m : Int) ((0 : Nat) : Int) = ((l + m * 4096 : Nat) : Int) := e1
  obtain ⟨e2, w2⟩ := rg_da d a (by omega) (by omega)
  obtain ⟨e3, w3⟩ := sp1 n
  have eW := enc3 e1 e2 e3 w1 w2 w3 (by decide) (by decide) (by decide) (by decide) (by decide)
  have p0 : ((pc n 0 12 : Nat) : Int) = n / 1 % 4096 := pc_int n 0 12
  have u0 : pc n 0 12 < 4096 := pc_lt n 0 12
  generalize pc n 0 12 = y0 at *
  have hlt : l + m * 4096 + (d * 128 + a * 32768) + (y0 * 1048576) < 4294967296 := by clear p0 eW n0 n1 n2; omega
  generalize hW : l + m * 4096 + (d * 128 + a * 32768) + (y0 * 1048576) = W at *
  clear w1 w2 w3 e3
  have xl : W % 128 = l := by clear p0 n0 n1 n2 eW e1 e2; omega
  have xm : W / 4096 % 8 = m := by clear p0 n0 n1 n2 eW e1 e2; omega
  have xd : W / 128 % 32 = d := by clear p0 n0 n1 n2 eW e1 e2; omega
  have xa : W / 32768 % 32 = a := by clear p0 n0 n1 n2 eW e1 e2; omega
  have x0 : W / 1048576 % 4096 = y0 := by clear p0 n0 n1 n2 eW e1 e2; omega
  refine ⟨W, hlt, eW, ?_, ?_, ?_, ?_, ?_⟩
  · show bits .and .u32 (W : Int) ((28799 : Nat) : Int) = obV (l : Int) (m : Int) ((0 : Nat) : Int)
    rw [andN W _ hlt (by omega), e1]
    rw [a_lm, xl, xm]
  · show regV W ((128 : Nat) : Int) true = _
    rw [regV_t W 128 hlt, xd]
  · show regV W ((32768 : Nat) : Int) true = _
    rw [regV_t W 32768 hlt, xa]
  · rfl
  · show sgV true (gatTo (W : Int) sh1.ms 4) 2048 4096 = n
    rw [gt1, x0]
    exact fin1 n y0 p0 n0 n1 n2

theorem encK2 (l m q : Nat) (hl : l < 128) (hm : m < 8) (hq : q < 64) (d a b n : Int) (hr : rightB d a b n sh2 = true) : ∃ W, EncIs 2 l m (2 * q) d a b n W := by
  simp only [rightB, Bool.and_eq_true] at hr
  obtain ⟨⟨⟨h1, h2⟩, h3⟩, h4⟩ := hr
  obtain ⟨d0, d1⟩ := fit_t d h1
  obtain ⟨a0, a1⟩ := fit_t a h2
  obtain rfl := fit_f b h3
  rw [nf_iff n sh2 0 (by omega) rfl] at h4
  obtain ⟨n0, n1, n2⟩ := h4
  replace n0 : (0 : Int) ≤ n := n0
  replace n1 : n < 64 := n1
  replace n2 : n % 1 = 0 := n2
  obtain ⟨d, rfl⟩ := Int.eq_ofNat_of_zero_le d0
  obtain ⟨a, rfl⟩ := Int.eq_ofNat_of_zero_le a0
  obtain ⟨e1, w1⟩ := obH l m q hl hm hq
  replace e1 : obV (l : Int) (m : Int) ((2 * q : Nat) : Int) = ((l + m * 4096 + q * 67108864 : Nat) : Int) := e1
  obtain ⟨e2, w2⟩ := rg_da d a (by omega) (by omega)
  obtain ⟨e3, w3⟩ := sp2 n
  have eW := enc3 e1 e2 e3 w1 w2 w3 (by decide) (by decide) (by decide) (by decide) (by decide)
  have p0 : ((pc n 0 6 : Nat) : Int) = n / 1 % 64 := pc_int n 0 6
  have u0 : pc n 0 6 < 64 := pc_lt n 0 6
  generalize pc n 0 6 = y0 at *
  have hlt : l + m * 4096 + q * 67108864 + (d * 128 + a * 32768) + (y0 * 1048576) < 4294967296 := by clear p0 eW n0 n1 n2; omega
  generalize hW : l + m * 4096 + q * 67108864 + (d * 128 + a * 32768) + (y0 * 1048576) = W at *
  clear w1 w2 w3 e3
  have xl : W % 128 = l := by clear p0 n0 n1 n2 eW e1 e2; omega
  have xm : W / 4096 % 8 = m := by clear p0 n0 n1 n2 eW e1 e2; omega
  have xq : W / 67108864 % 64 = q := by clear p0 n0 n1 n2 eW e1 e2; omega
  have xd : W / 128 % 32 = d := by clear p0 n0 n1 n2 eW e1 e2; omega
  have xa : W / 32768 % 32 = a := by clear p0 n0 n1 n2 eW e1 e2; omega
  have x0 : W / 1048576 % 64 = y0 := by clear p0 n0 n1 n2 eW e1 e2; omega
  refine ⟨W, hlt, eW, ?_, ?_, ?_, ?_, ?_⟩
  · show bits .and .u32 (W : Int) ((4227887231 : Nat) : Int) = obV (l : Int) (m : Int) ((2 * q : Nat) : Int)
    rw [andN W _ hlt (by omega), e1]
    rw [a_H, xl, xm, xq]
  · show regV W ((128 : Nat) : Int) true = _
    rw [regV_t W 128 hlt, xd]
  · show regV W ((32768 : Nat) : Int) true = _
    rw [regV_t W 32768 hlt, xa]
  · rfl
  · show sgV false (gatTo (W : Int) sh2.ms 4) _ _ = n
    rw [gt2, x0]
    show ((_ : Nat) : Int) = n
    omega

theorem encK3 (l m : Nat) (hl : l < 128) (hm : m < 8) (d a b n : Int) (hr : rightB d a b n sh3 = true) : ∃ W, EncIs 3 l m 0 d a b n W := by
  simp only [rightB, Bool.and_eq_true] at hr
  obtain ⟨⟨⟨h1, h2⟩, h3⟩, h4⟩ := hr
  obtain rfl := fit_f d h1
  obtain ⟨a0, a1⟩ := fit_t a h2
  obtain ⟨b0, b1⟩ := fit_t b h3
  rw [nf_iff n sh3 0 (by omega) rfl] at h4
  obtain ⟨n0, n1, n2⟩ := h4
  replace n0 : (-2048 : Int) ≤ n := n0
  replace n1 : n < 2048 := n1
  replace n2 : n % 1 = 0 := n2
  obtain ⟨a, rfl⟩ := Int.eq_ofNat_of_zero_le a0
  obtain ⟨b, rfl⟩ := Int.eq_ofNat_of_zero_le b0
  obtain ⟨e1, w1⟩ := ob2 l m hl hm
  replace e1 : obV (l : Int) (m : Int) ((0 : Nat) : Int) = ((l + m * 4096 : Nat) : Int) := e1
  obtain ⟨e2, w2⟩ := rg_ab a b (by omega) (by omega)
  obtain ⟨e3, w3⟩ := sp3 n
  have eW := enc3 e1 e2 e3 w1 w2 w3 (by decide) (by decide) (by decide) (by decide) (by decide)
  have p0 : ((pc n 0 5 : Nat) : Int) = n / 1 % 32 := pc_int n 0 5
  have u0 : pc n 0 5 < 32 := pc_lt n 0 5
  have p1 : ((pc n 5 7 : Nat) : Int) = n / 32 % 128 := pc_int n 5 7
  have u1 : pc n 5 7 < 128 := pc_lt n 5 7
  generalize pc n 0 5 = y0 at *
  generalize pc n 5 7 = y1 at *
  have hlt : l + m * 4096 + (a * 32768 + b * 1048576) + (y0 * 128 + y1 * 33554432) < 4294967296 := by clear p0 p1 eW n0 n1 n2; omega
  generalize hW : l + m * 4096 + (a * 32768 + b * 1048576) + (y0 * 128 + y1 * 33554432) = W at *
  clear w1 w2 w3 e3
  have xl : W % 128 = l := by clear p0 p1 n0 n1 n2 eW e1 e2; omega
  have xm : W / 4096 % 8 = m := by clear p0 p1 n0 n1 n2 eW e1 e2; omega
  have xa : W / 32768 % 32 = a := by clear p0 p1 n0 n1 n2 eW e1 e2; omega
  have xb : W / 1048576 % 32 = b := by clear p0 p1 n0 n1 n2 eW e1 e2; omega
  have x0 : W / 128 % 32 = y0 := by clear p0 p1 n0 n1 n2 eW e1 e2; omega
  have x1 : W / 33554432 % 128 = y1 := by clear p0 p1 n0 n1 n2 eW e1 e2; omega
  refine ⟨W, hlt, eW, ?_, ?_, ?_, ?_, ?_⟩
  · show bits .and .u32 (W : Int) ((28799 : Nat) : Int) = obV (l : Int) (m : Int) ((0 : Nat) : Int)
    rw [andN W _ hlt (by omega), e1]
    rw [a_lm, xl, xm]
  · rfl
  · show regV W ((32768 : Nat) : Int) true = _
    rw [regV_t W 32768 hlt, xa]
  · show regV W ((1048576 : Nat) : Int) true = _
    rw [regV_t W 1048576 hlt, xb]
  · show sgV true (gatTo (W : Int) sh3.ms 4) 2048 4096 = n
    rw [gt3, x0, x1]
    exact fin3 n y0 y1 p0 p1 n0 n1 n2

theorem encK4 (l m : Nat) (hl : l < 128) (hm : m < 8) (d a b n : Int) (hr : rightB d a b n sh4 = true) : ∃ W, EncIs 4 l m 0 d a b n W := by
  simp only [rightB, Bool.and_eq_true] at hr
  obtain ⟨⟨⟨h1, h2⟩, h3⟩, h4⟩ := hr
  obtain rfl := fit_f d h1
  obtain ⟨a0, a1⟩ := fit_t a h2
  obtain ⟨b0, b1⟩ := fit_t b h3
  rw [nf_iff n sh4 1 (by omega) rfl] at h4
  obtain ⟨n0, n1, n2⟩ := h4
  replace n0 : (-4096 : Int) ≤ n := n0
  replace n1 : n < 4096 := n1
  replace n2 : n % 2 = 0 := n2
  obtain ⟨a, rfl⟩ := Int.eq_ofNat_of_zero_le a0
  obtain ⟨b, rfl⟩ := Int.eq_ofNat_of_zero_le b0
  obtain ⟨e1, w1⟩ := ob2 l m hl hm
  replace e1 : obV (l : Int) (m : Int) ((0 : Nat) : Int) = ((l + m * 4096 : Nat) : Int) := e1
  obtain ⟨e2, w2⟩ := rg_ab a b (by omega) (by omega)
  obtain ⟨e3, w3⟩ := sp4 n
  have eW := enc3 e1 e2 e3 w1 w2 w3 (by decide) (by decide) (by decide) (by decide) (by decide)
  have p0 : ((pc n 11 1 : Nat) : Int) = n / 2048 % 2 := pc_int n 11 1
  have u0 : pc n 11 1 < 2 := pc_lt n 11 1
  have p1 : ((pc n 1 4 : Nat) : Int) = n / 2 % 16 := pc_int n 1 4
  have u1 : pc n 1 4 < 16 := pc_lt n 1 4
  have p2 : ((pc n 5 6 : Nat) : Int) = n / 32 % 64 := pc_int n 5 6
  have u2 : pc n 5 6 < 64 := pc_lt n 5 6
  have p3 : ((pc n 12 1 : Nat) : Int) = n / 4096 % 2 := pc_int n 12 1
  have u3 : pc n 12 1 < 2 := pc_lt n 12 1
  generalize pc n 11 1 = y0 at *
  generalize pc n 1 4 = y1 at *
  generalize pc n 5 6 = y2 at *
  generalize pc n 12 1 = y3 at *
  have hlt : l + m * 4096 + (a * 32768 + b * 1048576) + (y0 * 128 + y1 * 256 + y2 * 33554432 + y3 * 2147483648) < 4294967296 := by clear p0 p1 p2 p3 eW n0 n1 n2; omega
  generalize hW : l + m * 4096 + (a * 32768 + b * 1048576) + (y0 * 128 + y1 * 256 + y2 * 33554432 + y3 * 2147483648) = W at *
  clear w1 w2 w3 e3
  have xl : W % 128 = l := by clear p0 p1 p2 p3 n0 n1 n2 eW e1 e2; omega
  have xm : W / 4096 % 8 = m := by clear p0 p1 p2 p3 n0 n1 n2 eW e1 e2; omega
  have xa : W / 32768 % 32 = a := by clear p0 p1 p2 p3 n0 n1 n2 eW e1 e2; omega
  have xb : W / 1048576 % 32 = b := by clear p0 p1 p2 p3 n0 n1 n2 eW e1 e2; omega
  have x0 : W / 128 % 2 = y0 := by clear p0 p1 p2 p3 n0 n1 n2 eW e1 e2; omega
  have x1 : W / 256 % 16 = y1 := by clear p0 p1 p2 p3 n0 n1 n2 eW e1 e2; omega
  have x2 : W / 33554432 % 64 = y2 := by clear p0 p1 p2 p3 n0 n1 n2 eW e1 e2; omega
  have x3 : W / 2147483648 % 2 = y3 := by clear p0 p1 p2 p3 n0 n1 n2 eW e1 e2; omega
  refine ⟨W, hlt, eW, ?_, ?_, ?_, ?_, ?_⟩
  · show bits .and .u32 (W : Int) ((28799 : Nat) : Int) = obV (l : Int) (m : Int) ((0 : Nat) : Int)
    rw [andN W _ hlt (by omega), e1]
    rw [a_lm, xl, xm]
  · rfl
  · show regV W ((32768 : Nat) : Int) true = _
    rw [regV_t W 32768 hlt, xa]
  · show regV W ((1048576 : Nat) : Int) true = _
    rw [regV_t W 1048576 hlt, xb]
  · show sgV true (gatTo (W : Int) sh4.ms 4) 4096 8192 = n
    rw [gt4, x0, x1, x2, x3]
    exact fin4 n y0 y1 y2 y3 p0 p1 p2 p3 n0 n1 n2

theorem encK5 (l : Nat) (hl : l < 128) (d a b n : Int) (hr : rightB d a b n sh5 = true) : ∃ W, EncIs 5 l 0 0 d a b n W := by
  simp only [rightB, Bool.and_eq_true] at hr
  obtain ⟨⟨⟨h1, h2⟩, h3⟩, h4⟩ := hr
  obtain ⟨d0, d1⟩ := fit_t d h1
  obtain rfl := fit_f a h2
  obtain rfl := fit_f b h3
  rw [nf_iff n sh5 12 (by omega) rfl] at h4
  obtain ⟨n0, n1, n2⟩ := h4
  replace n0 : (-2147483648 : Int) ≤ n := n0
  replace n1 : n < 2147483648 := n1
  replace n2 : n % 4096 = 0 := n2
  obtain ⟨d, rfl⟩ := Int.eq_ofNat_of_zero_le d0
  obtain ⟨e1, w1⟩ := ob1 l hl
  replace e1 : obV (l : Int) ((0 : Nat) : Int) ((0 : Nat) : Int) = ((l : Nat) : Int) := e1
  obtain ⟨e2, w2⟩ := rg_d d (by omega)
  obtain ⟨e3, w3⟩ := sp5 n
  have eW := enc3 e1 e2 e3 w1 w2 w3 (by decide) (by decide) (by decide) (by decide) (by decide)
  have p0 : ((pc n 12 20 : Nat) : Int) = n / 4096 % 1048576 := pc_int n 12 20
  have u0 : pc n 12 20 < 1048576 := pc_lt n 12 20
  generalize pc n 12 20 = y0 at *
  have hlt : l + (d * 128) + (y0 * 4096) < 4294967296 := by clear p0 eW n0 n1 n2; omega
  generalize hW : l + (d * 128) + (y0 * 4096) = W at *
  clear w1 w2 w3 e3
  have xl : W % 128 = l := by clear p0 n0 n1 n2 eW e1 e2; omega
  have xd : W / 128 % 32 = d := by clear p0 n0 n1 n2 eW e1 e2; omega
  have x0 : W / 4096 % 1048576 = y0 := by clear p0 n0 n1 n2 eW e1 e2; omega
  refine ⟨W, hlt, eW, ?_, ?_, ?_, ?_, ?_⟩
  · show bits .and .u32 (W : Int) ((127 : Nat) : Int) = obV (l : Int) ((0 : Nat) : Int) ((0 : Nat) : Int)
    rw [andN W _ hlt (by omega), e1]
    rw [a_low, xl]
  · show regV W ((128 : Nat) : Int) true = _
    rw [regV_t W 128 hlt, xd]
  · rfl
  · rfl
  · show sgV true (gatTo (W : Int) sh5.ms 4) 2147483648 4294967296 = n
    rw [gt5, x0]
    exact fin5 n y0 p0 n0 n1 n2

theorem encK6 (l : Nat) (hl : l < 128) (d a b n : Int) (hr : rightB d a b n sh6 = true) : ∃ W, EncIs 6 l 0 0 d a b n W := by
  simp only [rightB, Bool.and_eq_true] at hr
  obtain ⟨⟨⟨h1, h2⟩, h3⟩, h4⟩ := hr
  obtain ⟨d0, d1⟩ := fit_t d h1
  obtain rfl := fit_f a h2
  obtain rfl := fit_f b h3
  rw [nf_iff n sh6 1 (by omega) rfl] at h4
  obtain ⟨n0, n1, n2⟩ := h4
  replace n0 : (-1048576 : Int) ≤ n := n0
  replace n1 : n < 1048576 := n1
  replace n2 : n % 2 = 0 := n2
  obtain ⟨d, rfl⟩ := Int.eq_ofNat_of_zero_le d0
  obtain ⟨e1, w1⟩ := ob1 l hl
  replace e1 : obV (l : Int) ((0 : Nat) : Int) ((0 : Nat) : Int) = ((l : Nat) : Int) := e1
  obtain ⟨e2, w2⟩ := rg_d d (by omega)
  obtain ⟨e3, w3⟩ := sp6 n
  have eW := enc3 e1 e2 e3 w1 w2 w3 (by decide) (by decide) (by decide) (by decide) (by decide)
  have p0 : ((pc n 12 8 : Nat) : Int) = n / 4096 % 256 := pc_int n 12 8
  have u0 : pc n 12 8 < 256 := pc_lt n 12 8
  have p1 : ((pc n 11 1 : Nat) : Int) = n / 2048 % 2 := pc_int n 11 1
  have u1 : pc n 11 1 < 2 := pc_lt n 11 1
  have p2 : ((pc n 1 10 : Nat) : Int) = n / 2 % 1024 := pc_int n 1 10
  have u2 : pc n 1 10 < 1024 := pc_lt n 1 10
  have p3 : ((pc n 20 1 : Nat) : Int) = n / 1048576 % 2 := pc_int n 20 1
  have u3 : pc n 20 1 < 2 := pc_lt n 20 1
  generalize pc n 12 8 = y0 at *
  generalize pc n 11 1 = y1 at *
  generalize pc n 1 10 = y2 at *
  generalize pc n 20 1 = y3 at *
  have hlt : l + (d * 128) + (y0 * 4096 + y1 * 1048576 + y2 * 2097152 + y3 * 2147483648) < 4294967296 := by clear p0 p1 p2 p3 eW n0 n1 n2; omega
  generalize hW : l + (d * 128) + (y0 * 4096 + y1 * 1048576 + y2 * 2097152 + y3 * 2147483648) = W at *
  clear w1 w2 w3 e3
  have xl : W % 128 = l := by clear p0 p1 p2 p3 n0 n1 n2 eW e1 e2; omega
  have xd : W / 128 % 32 = d := by clear p0 p1 p2 p3 n0 n1 n2 eW e1 e2; omega
  have x0 : W / 4096 % 256 = y0 := by clear p0 p1 p2 p3 n0 n1 n2 eW e1 e2; omega
  have x1 : W / 1048576 % 2 = y1 := by clear p0 p1 p2 p3 n0 n1 n2 eW e1 e2; omega
  have x2 : W / 2097152 % 1024 = y2 := by clear p0 p1 p2 p3 n0 n1 n2 eW e1 e2; omega
  have x3 : W / 2147483648 % 2 = y3 := by clear p0 p1 p2 p3 n0 n1 n2 eW e1 e2; omega
  refine ⟨W, hlt, eW, ?_, ?_, ?_, ?_, ?_⟩
  · show bits .and .u32 (W : Int) ((127 : Nat) : Int) = obV (l : Int) ((0 : Nat) : Int) ((0 : Nat) : Int)
    rw [andN W _ hlt (by omega), e1]
    rw [a_low, xl]
  · show regV W ((128 : Nat) : Int) true = _
    rw [regV_t W 128 hlt, xd]
  · rfl
  · rfl
  · show sgV true (gatTo (W : Int) sh6.ms 4) 1048576 2097152 = n
    rw [gt6, x0, x1, x2, x3]
    exact fin6 n y0 y1 y2 y3 p0 p1 p2 p3 n0 n1 n2

theorem encK7 (l : Nat) (hl : l < 128) (d a b n : Int) (hr : rightB d a b n sh7 = true) : ∃ W, EncIs 7 l 0 0 d a b n W := by
  simp only [rightB, Bool.and_eq_true] at hr
  obtain ⟨⟨⟨h1, h2⟩, h3⟩, h4⟩ := hr
  obtain rfl := fit_f d h1
  obtain rfl := fit_f a h2
  obtain rfl := fit_f b h3
  rw [nf_iff n sh7 0 (by omega) rfl] at h4
  obtain ⟨n0, n1, n2⟩ := h4
  replace n0 : (0 : Int) ≤ n := n0
  replace n1 : n < 1 := n1
  replace n2 : n % 1 = 0 := n2
  obtain ⟨e1, w1⟩ := ob1 l hl
  replace e1 : obV (l : Int) ((0 : Nat) : Int) ((0 : Nat) : Int) = ((l : Nat) : Int) := e1
  have e2 : regsV 0 0 0 = ((0 : Nat) : Int) := by decide
  have w2 : Within 0 0 := rfl
  obtain ⟨e3, w3⟩ := sp7 n
  have eW := enc3 e1 e2 e3 w1 w2 w3 (by decide) (by decide) (by decide) (by decide) (by decide)
  have hlt : l + 0 + 0 < 4294967296 := by omega
  generalize hW : l + 0 + 0 = W at *
  clear w1 w2 w3 e3
  have xl : W % 128 = l := by clear eW e1 e2; omega
  refine ⟨W, hlt, eW, ?_, ?_, ?_, ?_, ?_⟩
  · show bits .and .u32 (W : Int) ((4294967295 : Nat) : Int) = obV (l : Int) ((0 : Nat) : Int) ((0 : Nat) : Int)
    rw [andN W _ hlt (by omega), e1]
    rw [a_E W hlt]
    omega
  · rfl
  · rfl
  · rfl
  · show sgV false (gatTo (W : Int) sh7.ms 4) _ _ = n
    rw [gt7]
    show ((_ : Nat) : Int) = n
    omega
end Go.Proofs.YtchankbdfkgdiaaDoor
