/- The document's sum of a word is the program's word, kind by kind. -/
import Derived.Test.YtchankbdfkgdiaaDoorE11
namespace Go.Proofs.YtchankbdfkgdiaaDoor
open Go Go.RowKit
theorem wd_0 (l m h : Nat) (hl : l < 128) (hm : m < 8) (hh : h < 128) (d a b n : Int) (hr : rightB d a b n sh0 = true) :
    encV l (m : Int) (h : Int) d a b n sh0 = ((strV (((l : Int) + m * 4096) % 4294967296) d a b [100, 97, 98] + (h : Int) * 33554432) % 4294967296) := by
  simp only [rightB, Bool.and_eq_true] at hr
  obtain ⟨⟨⟨h1, h2⟩, h3⟩, h4⟩ := hr
  obtain ⟨d0, d1⟩ := fit_t d h1
  obtain ⟨a0, a1⟩ := fit_t a h2
  obtain ⟨b0, b1⟩ := fit_t b h3
  obtain ⟨d, rfl⟩ := Int.eq_ofNat_of_zero_le d0
  obtain ⟨a, rfl⟩ := Int.eq_ofNat_of_zero_le a0
  obtain ⟨b, rfl⟩ := Int.eq_ofNat_of_zero_le b0
  obtain ⟨e1, w1⟩ := obV_eq l m h hl hm hh
  obtain ⟨e2, w2⟩ := rg_dab d a b (by omega) (by omega) (by omega)
  obtain ⟨e3, w3⟩ := sp0 n
  have eW := enc3 e1 e2 e3 w1 w2 w3 (by decide) (by decide) (by decide) (by decide) (by decide)
  refine Eq.trans eW ?_
  show _ = (((((((((((l : Int) + m * 4096) % 4294967296) + (d : Int) * 128) % 4294967296) + (a : Int) * 32768) % 4294967296) + (b : Int) * 1048576) % 4294967296) + (h : Int) * 33554432) % 4294967296)
  clear e1 e2 e3 eW h1 h2 h3 h4 w1 w2 w3
  simp only [Int.emod_add_emod]
  omega
theorem wd_1 (l m : Nat) (hl : l < 128) (hm : m < 8) (d a b n : Int) (hr : rightB d a b n sh1 = true) :
    encV l (m : Int) ((0 : Nat) : Int) d a b n sh1 = psum n (fun j => ([0] : List Nat).getD j 0) (fun j => ([12] : List Nat).getD j 0) (fun j => ([20] : List Nat).getD j 0) ((strV (((l : Int) + m * 4096) % 4294967296) d a b [100, 97] + ((0 : Nat) : Int) * 33554432) % 4294967296) 1 := by
  simp only [rightB, Bool.and_eq_true] at hr
  obtain ⟨⟨⟨h1, h2⟩, h3⟩, h4⟩ := hr
  obtain ⟨d0, d1⟩ := fit_t d h1
  obtain ⟨a0, a1⟩ := fit_t a h2
  obtain rfl := fit_f b h3
  obtain ⟨d, rfl⟩ := Int.eq_ofNat_of_zero_le d0
  obtain ⟨a, rfl⟩ := Int.eq_ofNat_of_zero_le a0
  obtain ⟨e1, w1⟩ := ob2 l m hl hm
  replace e1 : obV (l : Int) (m : Int) ((0 : Nat) : Int) = ((l + m * 4096 : Nat) : Int) := e1
  obtain ⟨e2, w2⟩ := rg_da d a (by omega) (by omega)
  obtain ⟨e3, w3⟩ := sp1 n
  have eW := enc3 e1 e2 e3 w1 w2 w3 (by decide) (by decide) (by decide) (by decide) (by decide)
  have u0 : pc n 0 12 < 4096 := pc_lt n 0 12
  refine Eq.trans eW ?_
  show _ = (((((((((((l : Int) + m * 4096) % 4294967296) + (d : Int) * 128) % 4294967296) + (a : Int) * 32768) % 4294967296) + ((0 : Nat) : Int) * 33554432) % 4294967296) + n / (2 : Int) ^ 0 % (2 : Int) ^ 12 * (2 : Int) ^ 20) % 4294967296)
  rw [← pc_int n 0 12]
  generalize pc n 0 12 = y0 at *
  clear e1 e2 e3 eW h1 h2 h3 h4 w1 w2 w3
  simp only [Int.emod_add_emod]
  omega
theorem wd_2 (l m q : Nat) (hl : l < 128) (hm : m < 8) (hq : q < 64) (d a b n : Int) (hr : rightB d a b n sh2 = true) :
    encV l (m : Int) ((2 * q : Nat) : Int) d a b n sh2 = psum n (fun j => ([0] : List Nat).getD j 0) (fun j => ([6] : List Nat).getD j 0) (fun j => ([20] : List Nat).getD j 0) ((strV (((l : Int) + m * 4096) % 4294967296) d a b [100, 97] + ((2 * q : Nat) : Int) * 33554432) % 4294967296) 1 := by
  simp only [rightB, Bool.and_eq_true] at hr
  obtain ⟨⟨⟨h1, h2⟩, h3⟩, h4⟩ := hr
  obtain ⟨d0, d1⟩ := fit_t d h1
  obtain ⟨a0, a1⟩ := fit_t a h2
  obtain rfl := fit_f b h3
  obtain ⟨d, rfl⟩ := Int.eq_ofNat_of_zero_le d0
  obtain ⟨a, rfl⟩ := Int.eq_ofNat_of_zero_le a0
  obtain ⟨e1, w1⟩ := obH l m q hl hm hq
  replace e1 : obV (l : Int) (m : Int) ((2 * q : Nat) : Int) = ((l + m * 4096 + q * 67108864 : Nat) : Int) := e1
  obtain ⟨e2, w2⟩ := rg_da d a (by omega) (by omega)
  obtain ⟨e3, w3⟩ := sp2 n
  have eW := enc3 e1 e2 e3 w1 w2 w3 (by decide) (by decide) (by decide) (by decide) (by decide)
  have u0 : pc n 0 6 < 64 := pc_lt n 0 6
  refine Eq.trans eW ?_
  show _ = (((((((((((l : Int) + m * 4096) % 4294967296) + (d : Int) * 128) % 4294967296) + (a : Int) * 32768) % 4294967296) + ((2 * q : Nat) : Int) * 33554432) % 4294967296) + n / (2 : Int) ^ 0 % (2 : Int) ^ 6 * (2 : Int) ^ 20) % 4294967296)
  rw [← pc_int n 0 6]
  generalize pc n 0 6 = y0 at *
  clear e1 e2 e3 eW h1 h2 h3 h4 w1 w2 w3
  simp only [Int.emod_add_emod]
  omega
theorem wd_3 (l m : Nat) (hl : l < 128) (hm : m < 8) (d a b n : Int) (hr : rightB d a b n sh3 = true) :
    encV l (m : Int) ((0 : Nat) : Int) d a b n sh3 = psum n (fun j => ([0, 5] : List Nat).getD j 0) (fun j => ([5, 7] : List Nat).getD j 0) (fun j => ([7, 25] : List Nat).getD j 0) ((strV (((l : Int) + m * 4096) % 4294967296) d a b [97, 98] + ((0 : Nat) : Int) * 33554432) % 4294967296) 2 := by
  simp only [rightB, Bool.and_eq_true] at hr
  obtain ⟨⟨⟨h1, h2⟩, h3⟩, h4⟩ := hr
  obtain rfl := fit_f d h1
  obtain ⟨a0, a1⟩ := fit_t a h2
  obtain ⟨b0, b1⟩ := fit_t b h3
  obtain ⟨a, rfl⟩ := Int.eq_ofNat_of_zero_le a0
  obtain ⟨b, rfl⟩ := Int.eq_ofNat_of_zero_le b0
  obtain ⟨e1, w1⟩ := ob2 l m hl hm
  replace e1 : obV (l : Int) (m : Int) ((0 : Nat) : Int) = ((l + m * 4096 : Nat) : Int) := e1
  obtain ⟨e2, w2⟩ := rg_ab a b (by omega) (by omega)
  obtain ⟨e3, w3⟩ := sp3 n
  have eW := enc3 e1 e2 e3 w1 w2 w3 (by decide) (by decide) (by decide) (by decide) (by decide)
  have u0 : pc n 0 5 < 32 := pc_lt n 0 5
  have u1 : pc n 5 7 < 128 := pc_lt n 5 7
  refine Eq.trans eW ?_
  show _ = (((((((((((((l : Int) + m * 4096) % 4294967296) + (a : Int) * 32768) % 4294967296) + (b : Int) * 1048576) % 4294967296) + ((0 : Nat) : Int) * 33554432) % 4294967296) + n / (2 : Int) ^ 0 % (2 : Int) ^ 5 * (2 : Int) ^ 7) % 4294967296) + n / (2 : Int) ^ 5 % (2 : Int) ^ 7 * (2 : Int) ^ 25) % 4294967296)
  rw [← pc_int n 0 5, ← pc_int n 5 7]
  generalize pc n 0 5 = y0 at *
  generalize pc n 5 7 = y1 at *
  clear e1 e2 e3 eW h1 h2 h3 h4 w1 w2 w3
  simp only [Int.emod_add_emod]
  omega
theorem wd_4 (l m : Nat) (hl : l < 128) (hm : m < 8) (d a b n : Int) (hr : rightB d a b n sh4 = true) :
    encV l (m : Int) ((0 : Nat) : Int) d a b n sh4 = psum n (fun j => ([11, 1, 5, 12] : List Nat).getD j 0) (fun j => ([1, 4, 6, 1] : List Nat).getD j 0) (fun j => ([7, 8, 25, 31] : List Nat).getD j 0) ((strV (((l : Int) + m * 4096) % 4294967296) d a b [97, 98] + ((0 : Nat) : Int) * 33554432) % 4294967296) 4 := by
  simp only [rightB, Bool.and_eq_true] at hr
  obtain ⟨⟨⟨h1, h2⟩, h3⟩, h4⟩ := hr
  obtain rfl := fit_f d h1
  obtain ⟨a0, a1⟩ := fit_t a h2
  obtain ⟨b0, b1⟩ := fit_t b h3
  obtain ⟨a, rfl⟩ := Int.eq_ofNat_of_zero_le a0
  obtain ⟨b, rfl⟩ := Int.eq_ofNat_of_zero_le b0
  obtain ⟨e1, w1⟩ := ob2 l m hl hm
  replace e1 : obV (l : Int) (m : Int) ((0 : Nat) : Int) = ((l + m * 4096 : Nat) : Int) := e1
  obtain ⟨e2, w2⟩ := rg_ab a b (by omega) (by omega)
  obtain ⟨e3, w3⟩ := sp4 n
  have eW := enc3 e1 e2 e3 w1 w2 w3 (by decide) (by decide) (by decide) (by decide) (by decide)
  have u0 : pc n 11 1 < 2 := pc_lt n 11 1
  have u1 : pc n 1 4 < 16 := pc_lt n 1 4
  have u2 : pc n 5 6 < 64 := pc_lt n 5 6
  have u3 : pc n 12 1 < 2 := pc_lt n 12 1
  refine Eq.trans eW ?_
  show _ = (((((((((((((((((l : Int) + m * 4096) % 4294967296) + (a : Int) * 32768) % 4294967296) + (b : Int) * 1048576) % 4294967296) + ((0 : Nat) : Int) * 33554432) % 4294967296) + n / (2 : Int) ^ 11 % (2 : Int) ^ 1 * (2 : Int) ^ 7) % 4294967296) + n / (2 : Int) ^ 1 % (2 : Int) ^ 4 * (2 : Int) ^ 8) % 4294967296) + n / (2 : Int) ^ 5 % (2 : Int) ^ 6 * (2 : Int) ^ 25) % 4294967296) + n / (2 : Int) ^ 12 % (2 : Int) ^ 1 * (2 : Int) ^ 31) % 4294967296)
  rw [← pc_int n 11 1, ← pc_int n 1 4, ← pc_int n 5 6, ← pc_int n 12 1]
  generalize pc n 11 1 = y0 at *
  generalize pc n 1 4 = y1 at *
  generalize pc n 5 6 = y2 at *
  generalize pc n 12 1 = y3 at *
  clear e1 e2 e3 eW h1 h2 h3 h4 w1 w2 w3
  simp only [Int.emod_add_emod]
  omega
theorem wd_5 (l : Nat) (hl : l < 128) (d a b n : Int) (hr : rightB d a b n sh5 = true) :
    encV l ((0 : Nat) : Int) ((0 : Nat) : Int) d a b n sh5 = psum n (fun j => ([12] : List Nat).getD j 0) (fun j => ([20] : List Nat).getD j 0) (fun j => ([12] : List Nat).getD j 0) ((strV (l : Int) d a b [100] + ((0 : Nat) : Int) * 33554432) % 4294967296) 1 := by
  simp only [rightB, Bool.and_eq_true] at hr
  obtain ⟨⟨⟨h1, h2⟩, h3⟩, h4⟩ := hr
  obtain ⟨d0, d1⟩ := fit_t d h1
  obtain rfl := fit_f a h2
  obtain rfl := fit_f b h3
  obtain ⟨d, rfl⟩ := Int.eq_ofNat_of_zero_le d0
  obtain ⟨e1, w1⟩ := ob1 l hl
  replace e1 : obV (l : Int) ((0 : Nat) : Int) ((0 : Nat) : Int) = ((l : Nat) : Int) := e1
  obtain ⟨e2, w2⟩ := rg_d d (by omega)
  obtain ⟨e3, w3⟩ := sp5 n
  have eW := enc3 e1 e2 e3 w1 w2 w3 (by decide) (by decide) (by decide) (by decide) (by decide)
  have u0 : pc n 12 20 < 1048576 := pc_lt n 12 20
  refine Eq.trans eW ?_
  show _ = (((((((l : Int) + (d : Int) * 128) % 4294967296) + ((0 : Nat) : Int) * 33554432) % 4294967296) + n / (2 : Int) ^ 12 % (2 : Int) ^ 20 * (2 : Int) ^ 12) % 4294967296)
  rw [← pc_int n 12 20]
  generalize pc n 12 20 = y0 at *
  clear e1 e2 e3 eW h1 h2 h3 h4 w1 w2 w3
  simp only [Int.emod_add_emod]
  omega
theorem wd_6 (l : Nat) (hl : l < 128) (d a b n : Int) (hr : rightB d a b n sh6 = true) :
    encV l ((0 : Nat) : Int) ((0 : Nat) : Int) d a b n sh6 = psum n (fun j => ([12, 11, 1, 20] : List Nat).getD j 0) (fun j => ([8, 1, 10, 1] : List Nat).getD j 0) (fun j => ([12, 20, 21, 31] : List Nat).getD j 0) ((strV (l : Int) d a b [100] + ((0 : Nat) : Int) * 33554432) % 4294967296) 4 := by
  simp only [rightB, Bool.and_eq_true] at hr
  obtain ⟨⟨⟨h1, h2⟩, h3⟩, h4⟩ := hr
  obtain ⟨d0, d1⟩ := fit_t d h1
  obtain rfl := fit_f a h2
  obtain rfl := fit_f b h3
  obtain ⟨d, rfl⟩ := Int.eq_ofNat_of_zero_le d0
  obtain ⟨e1, w1⟩ := ob1 l hl
  replace e1 : obV (l : Int) ((0 : Nat) : Int) ((0 : Nat) : Int) = ((l : Nat) : Int) := e1
  obtain ⟨e2, w2⟩ := rg_d d (by omega)
  obtain ⟨e3, w3⟩ := sp6 n
  have eW := enc3 e1 e2 e3 w1 w2 w3 (by decide) (by decide) (by decide) (by decide) (by decide)
  have u0 : pc n 12 8 < 256 := pc_lt n 12 8
  have u1 : pc n 11 1 < 2 := pc_lt n 11 1
  have u2 : pc n 1 10 < 1024 := pc_lt n 1 10
  have u3 : pc n 20 1 < 2 := pc_lt n 20 1
  refine Eq.trans eW ?_
  show _ = (((((((((((((l : Int) + (d : Int) * 128) % 4294967296) + ((0 : Nat) : Int) * 33554432) % 4294967296) + n / (2 : Int) ^ 12 % (2 : Int) ^ 8 * (2 : Int) ^ 12) % 4294967296) + n / (2 : Int) ^ 11 % (2 : Int) ^ 1 * (2 : Int) ^ 20) % 4294967296) + n / (2 : Int) ^ 1 % (2 : Int) ^ 10 * (2 : Int) ^ 21) % 4294967296) + n / (2 : Int) ^ 20 % (2 : Int) ^ 1 * (2 : Int) ^ 31) % 4294967296)
  rw [← pc_int n 12 8, ← pc_int n 11 1, ← pc_int n 1 10, ← pc_int n 20 1]
  generalize pc n 12 8 = y0 at *
  generalize pc n 11 1 = y1 at *
  generalize pc n 1 10 = y2 at *
  generalize pc n 20 1 = y3 at *
  clear e1 e2 e3 eW h1 h2 h3 h4 w1 w2 w3
  simp only [Int.emod_add_emod]
  omega
theorem wd_7 (l : Nat) (hl : l < 128) (d a b n : Int) (hr : rightB d a b n sh7 = true) :
    encV l ((0 : Nat) : Int) ((0 : Nat) : Int) d a b n sh7 = ((strV (l : Int) d a b [] + ((0 : Nat) : Int) * 33554432) % 4294967296) := by
  simp only [rightB, Bool.and_eq_true] at hr
  obtain ⟨⟨⟨h1, h2⟩, h3⟩, h4⟩ := hr
  obtain rfl := fit_f d h1
  obtain rfl := fit_f a h2
  obtain rfl := fit_f b h3
  obtain ⟨e1, w1⟩ := ob1 l hl
  replace e1 : obV (l : Int) ((0 : Nat) : Int) ((0 : Nat) : Int) = ((l : Nat) : Int) := e1
  have e2 : regsV 0 0 0 = ((0 : Nat) : Int) := by decide
  have w2 : Within 0 0 := rfl
  obtain ⟨e3, w3⟩ := sp7 n
  have eW := enc3 e1 e2 e3 w1 w2 w3 (by decide) (by decide) (by decide) (by decide) (by decide)
  refine Eq.trans eW ?_
  show _ = (((l : Int) + ((0 : Nat) : Int) * 33554432) % 4294967296)
  clear e1 e2 e3 eW h1 h2 h3 h4 w1 w2 w3
  omega
end Go.Proofs.YtchankbdfkgdiaaDoor
