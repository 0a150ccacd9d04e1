/- Encode of the document's own answer: an instruction that may not be. The document's sum of a word is the program's word, kind by kind. The document's Encode, whole: of an instruction that may be it is the program's word. -/
import Derived.Test.YtjjjdplgdlaihaaGreatDoorMN
import Derived.Test.YtjjjdplgdlaihaaGreatDoorE10
import Derived.Test.YtjjjdplgdlaihaaGreatDoorML
namespace Go.Proofs.YtjjjdplgdlaihaaGreatDoor
open Go Go.RowKit

set_option maxRecDepth 100000 in
set_option maxHeartbeats 2000000 in
theorem encdoc_no (o d a b n : Int) (w : World) (hr : Rt o d a b n = false) :
    Calls Tryz.prog 14 #[instV o d a b n] w fun e w' => e = .returned (.tuple #[.int .u32 0, .int .i64 1]) ∧ Below w.heap.size w w' := by
  have hR := right_doc o d a b n
  rw [hr] at hR
  go_enter Tryz.func14, Tryz.ntmps14
  go_wp2_with (go_at_call 23; fail)
  refine (hR _).mono ?_
  rintro e w0 ⟨rfl, hb0⟩
  have HB0 : Hid (Below w.heap.size w w0) := ((Below.refl _ _).alloc (Nat.le_refl _) _).trans (hb0.mono (by simp))
  clear hb0
  go_wp2_with fail
  go_ret2
  exact ⟨rfl, HB0.out⟩
end Go.Proofs.YtjjjdplgdlaihaaGreatDoor

namespace Go.Proofs.YtjjjdplgdlaihaaGreatDoor
open Go Go.RowKit
theorem pc_int (n : Int) (f c : Nat) : ((pc n f c : Nat) : Int) = n / (2 : Int) ^ f % (2 : Int) ^ c := by
  have hp1 : 0 < (2 : Int) ^ c := by exact_mod_cast (Nat.two_pow_pos c)
  have h1 : 0 ≤ n / (2 : Int) ^ f % (2 : Int) ^ c := Int.emod_nonneg _ (by omega)
  unfold pc
  omega
theorem wd_0 (l m h : Nat) (hl : l < 128) (hm : m < 8) (hh : h < 128) (d a b n : Int) (hr : rightB d a b n sh0 = true) :
    encV l (m : Int) (h : Int) d a b n sh0 = ((strV (((l : Int) + m * 4096) % 4294967296) d a b [100, 97, 98] + (h : Int) * 33554432) % 4294967296) := by
  simp only [rightB, Bool.and_eq_true] at hr
  obtain ⟨⟨⟨h1, h2⟩, h3⟩, h4⟩ := hr
  obtain ⟨d0, d1⟩ := fit_t d h1
  obtain ⟨a0, a1⟩ := fit_t a h2
  obtain ⟨b0, b1⟩ := fit_t b h3
  obtain ⟨d, rfl⟩ := Int.eq_ofNat_of_zero_le d0
  obtain ⟨a, rfl⟩ := Int.eq_ofNat_of_zero_le a0
  obtain ⟨b, rfl⟩ := Int.eq_ofNat_of_zero_le b0
  obtain ⟨e1, w1⟩ := obV_eq l m h hl hm hh
  obtain ⟨e2, w2⟩ := rg_dab d a b (by omega) (by omega) (by omega)
  obtain ⟨e3, w3⟩ := sp0 n
  have eW := enc3 e1 e2 e3 w1 w2 w3 (by decide) (by decide) (by decide) (by decide) (by decide)
  refine Eq.trans eW ?_
  show _ = (((((((((((l : Int) + m * 4096) % 4294967296) + (d : Int) * 128) % 4294967296) + (a : Int) * 32768) % 4294967296) + (b : Int) * 1048576) % 4294967296) + (h : Int) * 33554432) % 4294967296)
  clear e1 e2 e3 eW h1 h2 h3 h4 w1 w2 w3
  simp only [Int.emod_add_emod]
  omega
theorem wd_1 (l m : Nat) (hl : l < 128) (hm : m < 8) (d a b n : Int) (hr : rightB d a b n sh1 = true) :
    encV l (m : Int) ((0 : Nat) : Int) d a b n sh1 = psum n (fun j => ([0] : List Nat).getD j 0) (fun j => ([12] : List Nat).getD j 0) (fun j => ([20] : List Nat).getD j 0) ((strV (((l : Int) + m * 4096) % 4294967296) d a b [100, 97] + ((0 : Nat) : Int) * 33554432) % 4294967296) 1 := by
  simp only [rightB, Bool.and_eq_true] at hr
  obtain ⟨⟨⟨h1, h2⟩, h3⟩, h4⟩ := hr
  obtain ⟨d0, d1⟩ := fit_t d h1
  obtain ⟨a0, a1⟩ := fit_t a h2
  obtain rfl := fit_f b h3
  obtain ⟨d, rfl⟩ := Int.eq_ofNat_of_zero_le d0
  obtain ⟨a, rfl⟩ := Int.eq_ofNat_of_zero_le a0
  obtain ⟨e1, w1⟩ := ob2 l m hl hm
  replace e1 : obV (l : Int) (m : Int) ((0 : Nat) : Int) = ((l + m * 4096 : Nat) : Int) := e1
  obtain ⟨e2, w2⟩ := rg_da d a (by omega) (by omega)
  obtain ⟨e3, w3⟩ := sp1 n
  have eW := enc3 e1 e2 e3 w1 w2 w3 (by decide) (by decide) (by decide) (by decide) (by decide)
  have u0 : pc n 0 12 < 4096 := pc_lt n 0 12
  refine Eq.trans eW ?_
  show _ = (((((((((((l : Int) + m * 4096) % 4294967296) + (d : Int) * 128) % 4294967296) + (a : Int) * 32768) % 4294967296) + ((0 : Nat) : Int) * 33554432) % 4294967296) + n / (2 : Int) ^ 0 % (2 : Int) ^ 12 * (2 : Int) ^ 20) % 4294967296)
  rw [← pc_int n 0 12]
  generalize pc n 0 12 = y0 at *
  clear e1 e2 e3 eW h1 h2 h3 h4 w1 w2 w3
  simp only [Int.emod_add_emod]
  omega
theorem wd_2 (l m q : Nat) (hl : l < 128) (hm : m < 8) (hq : q < 64) (d a b n : Int) (hr : rightB d a b n sh2 = true) :
    encV l (m : Int) ((2 * q : Nat) : Int) d a b n sh2 = psum n (fun j => ([0] : List Nat).getD j 0) (fun j => ([6] : List Nat).getD j 0) (fun j => ([20] : List Nat).getD j 0) ((strV (((l : Int) + m * 4096) % 4294967296) d a b [100, 97] + ((2 * q : Nat) : Int) * 33554432) % 4294967296) 1 := by
  simp only [rightB, Bool.and_eq_true] at hr
  obtain ⟨⟨⟨h1, h2⟩, h3⟩, h4⟩ := hr
  obtain ⟨d0, d1⟩ := fit_t d h1
  obtain ⟨a0, a1⟩ := fit_t a h2
  obtain rfl := fit_f b h3
  obtain ⟨d, rfl⟩ := Int.eq_ofNat_of_zero_le d0
  obtain ⟨a, rfl⟩ := Int.eq_ofNat_of_zero_le a0
  obtain ⟨e1, w1⟩ := obH l m q hl hm hq
  replace e1 : obV (l : Int) (m : Int) ((2 * q : Nat) : Int) = ((l + m * 4096 + q * 67108864 : Nat) : Int) := e1
  obtain ⟨e2, w2⟩ := rg_da d a (by omega) (by omega)
  obtain ⟨e3, w3⟩ := sp2 n
  have eW := enc3 e1 e2 e3 w1 w2 w3 (by decide) (by decide) (by decide) (by decide) (by decide)
  have u0 : pc n 0 6 < 64 := pc_lt n 0 6
  refine Eq.trans eW ?_
  show _ = (((((((((((l : Int) + m * 4096) % 4294967296) + (d : Int) * 128) % 4294967296) + (a : Int) * 32768) % 4294967296) + ((2 * q : Nat) : Int) * 33554432) % 4294967296) + n / (2 : Int) ^ 0 % (2 : Int) ^ 6 * (2 : Int) ^ 20) % 4294967296)
  rw [← pc_int n 0 6]
  generalize pc n 0 6 = y0 at *
  clear e1 e2 e3 eW h1 h2 h3 h4 w1 w2 w3
  simp only [Int.emod_add_emod]
  omega
theorem wd_3 (l m : Nat) (hl : l < 128) (hm : m < 8) (d a b n : Int) (hr : rightB d a b n sh3 = true) :
    encV l (m : Int) ((0 : Nat) : Int) d a b n sh3 = psum n (fun j => ([0, 5] : List Nat).getD j 0) (fun j => ([5, 7] : List Nat).getD j 0) (fun j => ([7, 25] : List Nat).getD j 0) ((strV (((l : Int) + m * 4096) % 4294967296) d a b [97, 98] + ((0 : Nat) : Int) * 33554432) % 4294967296) 2 := by
  simp only [rightB, Bool.and_eq_true] at hr
  obtain ⟨⟨⟨h1, h2⟩, h3⟩, h4⟩ := hr
  obtain rfl := fit_f d h1
  obtain ⟨a0, a1⟩ := fit_t a h2
  obtain ⟨b0, b1⟩ := fit_t b h3
  obtain ⟨a, rfl⟩ := Int.eq_ofNat_of_zero_le a0
  obtain ⟨b, rfl⟩ := Int.eq_ofNat_of_zero_le b0
  obtain ⟨e1, w1⟩ := ob2 l m hl hm
  replace e1 : obV (l : Int) (m : Int) ((0 : Nat) : Int) = ((l + m * 4096 : Nat) : Int) := e1
  obtain ⟨e2, w2⟩ := rg_ab a b (by omega) (by omega)
  obtain ⟨e3, w3⟩ := sp3 n
  have eW := enc3 e1 e2 e3 w1 w2 w3 (by decide) (by decide) (by decide) (by decide) (by decide)
  have u0 : pc n 0 5 < 32 := pc_lt n 0 5
  have u1 : pc n 5 7 < 128 := pc_lt n 5 7
  refine Eq.trans eW ?_
  show _ = (((((((((((((l : Int) + m * 4096) % 4294967296) + (a : Int) * 32768) % 4294967296) + (b : Int) * 1048576) % 4294967296) + ((0 : Nat) : Int) * 33554432) % 4294967296) + n / (2 : Int) ^ 0 % (2 : Int) ^ 5 * (2 : Int) ^ 7) % 4294967296) + n / (2 : Int) ^ 5 % (2 : Int) ^ 7 * (2 : Int) ^ 25) % 4294967296)
  rw [← pc_int n 0 5, ← pc_int n 5 7]
  generalize pc n 0 5 = y0 at *
  generalize pc n 5 7 = y1 at *
  clear e1 e2 e3 eW h1 h2 h3 h4 w1 w2 w3
  simp only [Int.emod_add_emod]
  omega
theorem wd_4 (l m : Nat) (hl : l < 128) (hm : m < 8) (d a b n : Int) (hr : rightB d a b n sh4 = true) :
    encV l (m : Int) ((0 : Nat) : Int) d a b n sh4 = psum n (fun j => ([11, 1, 5, 12] : List Nat).getD j 0) (fun j => ([1, 4, 6, 1] : List Nat).getD j 0) (fun j => ([7, 8, 25, 31] : List Nat).getD j 0) ((strV (((l : Int) + m * 4096) % 4294967296) d a b [97, 98] + ((0 : Nat) : Int) * 33554432) % 4294967296) 4 := by
  simp only [rightB, Bool.and_eq_true] at hr
  obtain ⟨⟨⟨h1, h2⟩, h3⟩, h4⟩ := hr
  obtain rfl := fit_f d h1
  obtain ⟨a0, a1⟩ := fit_t a h2
  obtain ⟨b0, b1⟩ := fit_t b h3
  obtain ⟨a, rfl⟩ := Int.eq_ofNat_of_zero_le a0
  obtain ⟨b, rfl⟩ := Int.eq_ofNat_of_zero_le b0
  obtain ⟨e1, w1⟩ := ob2 l m hl hm
  replace e1 : obV (l : Int) (m : Int) ((0 : Nat) : Int) = ((l + m * 4096 : Nat) : Int) := e1
  obtain ⟨e2, w2⟩ := rg_ab a b (by omega) (by omega)
  obtain ⟨e3, w3⟩ := sp4 n
  have eW := enc3 e1 e2 e3 w1 w2 w3 (by decide) (by decide) (by decide) (by decide) (by decide)
  have u0 : pc n 11 1 < 2 := pc_lt n 11 1
  have u1 : pc n 1 4 < 16 := pc_lt n 1 4
  have u2 : pc n 5 6 < 64 := pc_lt n 5 6
  have u3 : pc n 12 1 < 2 := pc_lt n 12 1
  refine Eq.trans eW ?_
  show _ = (((((((((((((((((l : Int) + m * 4096) % 4294967296) + (a : Int) * 32768) % 4294967296) + (b : Int) * 1048576) % 4294967296) + ((0 : Nat) : Int) * 33554432) % 4294967296) + n / (2 : Int) ^ 11 % (2 : Int) ^ 1 * (2 : Int) ^ 7) % 4294967296) + n / (2 : Int) ^ 1 % (2 : Int) ^ 4 * (2 : Int) ^ 8) % 4294967296) + n / (2 : Int) ^ 5 % (2 : Int) ^ 6 * (2 : Int) ^ 25) % 4294967296) + n / (2 : Int) ^ 12 % (2 : Int) ^ 1 * (2 : Int) ^ 31) % 4294967296)
  rw [← pc_int n 11 1, ← pc_int n 1 4, ← pc_int n 5 6, ← pc_int n 12 1]
  generalize pc n 11 1 = y0 at *
  generalize pc n 1 4 = y1 at *
  generalize pc n 5 6 = y2 at *
  generalize pc n 12 1 = y3 at *
  clear e1 e2 e3 eW h1 h2 h3 h4 w1 w2 w3
  simp only [Int.emod_add_emod]
  omega
theorem wd_5 (l : Nat) (hl : l < 128) (d a b n : Int) (hr : rightB d a b n sh5 = true) :
    encV l ((0 : Nat) : Int) ((0 : Nat) : Int) d a b n sh5 = psum n (fun j => ([12] : List Nat).getD j 0) (fun j => ([20] : List Nat).getD j 0) (fun j => ([12] : List Nat).getD j 0) ((strV (l : Int) d a b [100] + ((0 : Nat) : Int) * 33554432) % 4294967296) 1 := by
  simp only [rightB, Bool.and_eq_true] at hr
  obtain ⟨⟨⟨h1, h2⟩, h3⟩, h4⟩ := hr
  obtain ⟨d0, d1⟩ := fit_t d h1
  obtain rfl := fit_f a h2
  obtain rfl := fit_f b h3
  obtain ⟨d, rfl⟩ := Int.eq_ofNat_of_zero_le d0
  obtain ⟨e1, w1⟩ := ob1 l hl
  replace e1 : obV (l : Int) ((0 : Nat) : Int) ((0 : Nat) : Int) = ((l : Nat) : Int) := e1
  obtain ⟨e2, w2⟩ := rg_d d (by omega)
  obtain ⟨e3, w3⟩ := sp5 n
  have eW := enc3 e1 e2 e3 w1 w2 w3 (by decide) (by decide) (by decide) (by decide) (by decide)
  have u0 : pc n 12 20 < 1048576 := pc_lt n 12 20
  refine Eq.trans eW ?_
  show _ = (((((((l : Int) + (d : Int) * 128) % 4294967296) + ((0 : Nat) : Int) * 33554432) % 4294967296) + n / (2 : Int) ^ 12 % (2 : Int) ^ 20 * (2 : Int) ^ 12) % 4294967296)
  rw [← pc_int n 12 20]
  generalize pc n 12 20 = y0 at *
  clear e1 e2 e3 eW h1 h2 h3 h4 w1 w2 w3
  simp only [Int.emod_add_emod]
  omega
theorem wd_6 (l : Nat) (hl : l < 128) (d a b n : Int) (hr : rightB d a b n sh6 = true) :
    encV l ((0 : Nat) : Int) ((0 : Nat) : Int) d a b n sh6 = psum n (fun j => ([12, 11, 1, 20] : List Nat).getD j 0) (fun j => ([8, 1, 10, 1] : List Nat).getD j 0) (fun j => ([12, 20, 21, 31] : List Nat).getD j 0) ((strV (l : Int) d a b [100] + ((0 : Nat) : Int) * 33554432) % 4294967296) 4 := by
  simp only [rightB, Bool.and_eq_true] at hr
  obtain ⟨⟨⟨h1, h2⟩, h3⟩, h4⟩ := hr
  obtain ⟨d0, d1⟩ := fit_t d h1
  obtain rfl := fit_f a h2
  obtain rfl := fit_f b h3
  obtain ⟨d, rfl⟩ := Int.eq_ofNat_of_zero_le d0
  obtain ⟨e1, w1⟩ := ob1 l hl
  replace e1 : obV (l : Int) ((0 : Nat) : Int) ((0 : Nat) : Int) = ((l : Nat) : Int) := e1
  obtain ⟨e2, w2⟩ := rg_d d (by omega)
  obtain ⟨e3, w3⟩ := sp6 n
  have eW := enc3 e1 e2 e3 w1 w2 w3 (by decide) (by decide) (by decide) (by decide) (by decide)
  have u0 : pc n 12 8 < 256 := pc_lt n 12 8
  have u1 : pc n 11 1 < 2 := pc_lt n 11 1
  have u2 : pc n 1 10 < 1024 := pc_lt n 1 10
  have u3 : pc n 20 1 < 2 := pc_lt n 20 1
  refine Eq.trans eW ?_
  show _ = (((((((((((((l : Int) + (d : Int) * 128) % 4294967296) + ((0 : Nat) : Int) * 33554432) % 4294967296) + n / (2 : Int) ^ 12 % (2 : Int) ^ 8 * (2 : Int) ^ 12) % 4294967296) + n / (2 : Int) ^ 11 % (2 : Int) ^ 1 * (2 : Int) ^ 20) % 4294967296) + n / (2 : Int) ^ 1 % (2 : Int) ^ 10 * (2 : Int) ^ 21) % 4294967296) + n / (2 : Int) ^ 20 % (2 : Int) ^ 1 * (2 : Int) ^ 31) % 4294967296)
  rw [← pc_int n 12 8, ← pc_int n 11 1, ← pc_int n 1 10, ← pc_int n 20 1]
  generalize pc n 12 8 = y0 at *
  generalize pc n 11 1 = y1 at *
  generalize pc n 1 10 = y2 at *
  generalize pc n 20 1 = y3 at *
  clear e1 e2 e3 eW h1 h2 h3 h4 w1 w2 w3
  simp only [Int.emod_add_emod]
  omega
theorem wd_7 (l : Nat) (hl : l < 128) (d a b n : Int) (hr : rightB d a b n sh7 = true) :
    encV l ((0 : Nat) : Int) ((0 : Nat) : Int) d a b n sh7 = ((strV (l : Int) d a b [] + ((0 : Nat) : Int) * 33554432) % 4294967296) := by
  simp only [rightB, Bool.and_eq_true] at hr
  obtain ⟨⟨⟨h1, h2⟩, h3⟩, h4⟩ := hr
  obtain rfl := fit_f d h1
  obtain rfl := fit_f a h2
  obtain rfl := fit_f b h3
  obtain ⟨e1, w1⟩ := ob1 l hl
  replace e1 : obV (l : Int) ((0 : Nat) : Int) ((0 : Nat) : Int) = ((l : Nat) : Int) := e1
  have e2 : regsV 0 0 0 = ((0 : Nat) : Int) := by decide
  have w2 : Within 0 0 := rfl
  obtain ⟨e3, w3⟩ := sp7 n
  have eW := enc3 e1 e2 e3 w1 w2 w3 (by decide) (by decide) (by decide) (by decide) (by decide)
  refine Eq.trans eW ?_
  show _ = (((l : Int) + ((0 : Nat) : Int) * 33554432) % 4294967296)
  clear e1 e2 e3 eW h1 h2 h3 h4 w1 w2 w3
  omega
end Go.Proofs.YtjjjdplgdlaihaaGreatDoor

namespace Go.Proofs.YtjjjdplgdlaihaaGreatDoor
open Go Go.RowKit
theorem regs_in {d a b n : Int} {s : Sh} (hr : rightB d a b n s = true) : (0 ≤ d ∧ d < 32) ∧ (0 ≤ a ∧ a < 32) ∧ (0 ≤ b ∧ b < 32) := by
  simp only [rightB, Bool.and_eq_true] at hr
  exact ⟨fit_any _ _ hr.1.1.1, fit_any _ _ hr.1.1.2, fit_any _ _ hr.1.2⟩
theorem enck_0 (o d a b n : Int) (l m h : Nat) (hl : l < 128) (hm : m < 8) (hh : h < 128) (w : World) (hF : FormAt o 82 (l : Int) (m : Int) (h : Int)) (hr : rightB d a b n sh0 = true)
    (hR : ∀ w, Calls Tryz.prog 23 #[instV o d a b n] w fun e w' => e = .returned (.bool true) ∧ Below w.heap.size w w') :
    Calls Tryz.prog 14 #[instV o d a b n] w fun e w' => e = .returned (.tuple #[.int .u32 (encV (l : Int) (m : Int) (h : Int) d a b n sh0), .int .i64 0]) ∧ Below w.heap.size w w' := by
  obtain ⟨hd, ha, hb⟩ := regs_in hr
  exact enc_R o d a b n (l : Int) (m : Int) (h : Int) _ ⟨#[100, 97, 98]⟩ w hF hR has_0 (by decide) hd ha hb pieces_0 (wd_0 l m h hl hm hh d a b n hr)
theorem enck_1 (o d a b n : Int) (l m : Nat) (hl : l < 128) (hm : m < 8) (w : World) (hF : FormAt o 73 (l : Int) (m : Int) ((0 : Nat) : Int)) (hr : rightB d a b n sh1 = true)
    (hR : ∀ w, Calls Tryz.prog 23 #[instV o d a b n] w fun e w' => e = .returned (.bool true) ∧ Below w.heap.size w w') :
    Calls Tryz.prog 14 #[instV o d a b n] w fun e w' => e = .returned (.tuple #[.int .u32 (encV (l : Int) (m : Int) ((0 : Nat) : Int) d a b n sh1), .int .i64 0]) ∧ Below w.heap.size w w' := by
  obtain ⟨hd, ha, hb⟩ := regs_in hr
  have hcs : ∀ j, j < 1 → (#[.int .i64 0, .int .i64 12, .int .i64 20] : Array Value)[j * 3]? = some (.int .i64 ((([0] : List Nat).getD j 0 : Nat) : Int)) ∧ (#[.int .i64 0, .int .i64 12, .int .i64 20] : Array Value)[j * 3 + 1]? = some (.int .i64 ((([12] : List Nat).getD j 0 : Nat) : Int)) ∧ (#[.int .i64 0, .int .i64 12, .int .i64 20] : Array Value)[j * 3 + 2]? = some (.int .i64 ((([20] : List Nat).getD j 0 : Nat) : Int)) := by
    intro j hj
    have hc : j = 0 := by omega
    rcases hc with rfl <;> exact ⟨rfl, rfl, rfl⟩
  exact enc_core o d a b n 73 (l : Int) (m : Int) ((0 : Nat) : Int) _ ⟨#[100, 97]⟩ w hF hR has_1 (by decide) hd ha hb 1 (by decide) _ (fun j => ([0] : List Nat).getD j 0) (fun j => ([12] : List Nat).getD j 0) (fun j => ([20] : List Nat).getD j 0) pieces_1 hcs (by decide) (wd_1 l m hl hm d a b n hr) rfl rfl rfl
theorem enck_2 (o d a b n : Int) (l m q : Nat) (hl : l < 128) (hm : m < 8) (hq : q < 64) (w : World) (hF : FormAt o 72 (l : Int) (m : Int) ((2 * q : Nat) : Int)) (hr : rightB d a b n sh2 = true)
    (hR : ∀ w, Calls Tryz.prog 23 #[instV o d a b n] w fun e w' => e = .returned (.bool true) ∧ Below w.heap.size w w') :
    Calls Tryz.prog 14 #[instV o d a b n] w fun e w' => e = .returned (.tuple #[.int .u32 (encV (l : Int) (m : Int) ((2 * q : Nat) : Int) d a b n sh2), .int .i64 0]) ∧ Below w.heap.size w w' := by
  obtain ⟨hd, ha, hb⟩ := regs_in hr
  have hcs : ∀ j, j < 1 → (#[.int .i64 0, .int .i64 6, .int .i64 20] : Array Value)[j * 3]? = some (.int .i64 ((([0] : List Nat).getD j 0 : Nat) : Int)) ∧ (#[.int .i64 0, .int .i64 6, .int .i64 20] : Array Value)[j * 3 + 1]? = some (.int .i64 ((([6] : List Nat).getD j 0 : Nat) : Int)) ∧ (#[.int .i64 0, .int .i64 6, .int .i64 20] : Array Value)[j * 3 + 2]? = some (.int .i64 ((([20] : List Nat).getD j 0 : Nat) : Int)) := by
    intro j hj
    have hc : j = 0 := by omega
    rcases hc with rfl <;> exact ⟨rfl, rfl, rfl⟩
  exact enc_core o d a b n 72 (l : Int) (m : Int) ((2 * q : Nat) : Int) _ ⟨#[100, 97]⟩ w hF hR has_2 (by decide) hd ha hb 1 (by decide) _ (fun j => ([0] : List Nat).getD j 0) (fun j => ([6] : List Nat).getD j 0) (fun j => ([20] : List Nat).getD j 0) pieces_2 hcs (by decide) (wd_2 l m q hl hm hq d a b n hr) rfl rfl rfl
theorem enck_3 (o d a b n : Int) (l m : Nat) (hl : l < 128) (hm : m < 8) (w : World) (hF : FormAt o 83 (l : Int) (m : Int) ((0 : Nat) : Int)) (hr : rightB d a b n sh3 = true)
    (hR : ∀ w, Calls Tryz.prog 23 #[instV o d a b n] w fun e w' => e = .returned (.bool true) ∧ Below w.heap.size w w') :
    Calls Tryz.prog 14 #[instV o d a b n] w fun e w' => e = .returned (.tuple #[.int .u32 (encV (l : Int) (m : Int) ((0 : Nat) : Int) d a b n sh3), .int .i64 0]) ∧ Below w.heap.size w w' := by
  obtain ⟨hd, ha, hb⟩ := regs_in hr
  have hcs : ∀ j, j < 2 → (#[.int .i64 0, .int .i64 5, .int .i64 7, .int .i64 5, .int .i64 7, .int .i64 25] : Array Value)[j * 3]? = some (.int .i64 ((([0, 5] : List Nat).getD j 0 : Nat) : Int)) ∧ (#[.int .i64 0, .int .i64 5, .int .i64 7, .int .i64 5, .int .i64 7, .int .i64 25] : Array Value)[j * 3 + 1]? = some (.int .i64 ((([5, 7] : List Nat).getD j 0 : Nat) : Int)) ∧ (#[.int .i64 0, .int .i64 5, .int .i64 7, .int .i64 5, .int .i64 7, .int .i64 25] : Array Value)[j * 3 + 2]? = some (.int .i64 ((([7, 25] : List Nat).getD j 0 : Nat) : Int)) := by
    intro j hj
    have hc : j = 0 ∨ j = 1 := by omega
    rcases hc with rfl | rfl <;> exact ⟨rfl, rfl, rfl⟩
  exact enc_core o d a b n 83 (l : Int) (m : Int) ((0 : Nat) : Int) _ ⟨#[97, 98]⟩ w hF hR has_3 (by decide) hd ha hb 2 (by decide) _ (fun j => ([0, 5] : List Nat).getD j 0) (fun j => ([5, 7] : List Nat).getD j 0) (fun j => ([7, 25] : List Nat).getD j 0) pieces_3 hcs (by decide) (wd_3 l m hl hm d a b n hr) rfl rfl rfl
theorem enck_4 (o d a b n : Int) (l m : Nat) (hl : l < 128) (hm : m < 8) (w : World) (hF : FormAt o 66 (l : Int) (m : Int) ((0 : Nat) : Int)) (hr : rightB d a b n sh4 = true)
    (hR : ∀ w, Calls Tryz.prog 23 #[instV o d a b n] w fun e w' => e = .returned (.bool true) ∧ Below w.heap.size w w') :
    Calls Tryz.prog 14 #[instV o d a b n] w fun e w' => e = .returned (.tuple #[.int .u32 (encV (l : Int) (m : Int) ((0 : Nat) : Int) d a b n sh4), .int .i64 0]) ∧ Below w.heap.size w w' := by
  obtain ⟨hd, ha, hb⟩ := regs_in hr
  have hcs : ∀ j, j < 4 → (#[.int .i64 11, .int .i64 1, .int .i64 7, .int .i64 1, .int .i64 4, .int .i64 8, .int .i64 5, .int .i64 6, .int .i64 25, .int .i64 12, .int .i64 1, .int .i64 31] : Array Value)[j * 3]? = some (.int .i64 ((([11, 1, 5, 12] : List Nat).getD j 0 : Nat) : Int)) ∧ (#[.int .i64 11, .int .i64 1, .int .i64 7, .int .i64 1, .int .i64 4, .int .i64 8, .int .i64 5, .int .i64 6, .int .i64 25, .int .i64 12, .int .i64 1, .int .i64 31] : Array Value)[j * 3 + 1]? = some (.int .i64 ((([1, 4, 6, 1] : List Nat).getD j 0 : Nat) : Int)) ∧ (#[.int .i64 11, .int .i64 1, .int .i64 7, .int .i64 1, .int .i64 4, .int .i64 8, .int .i64 5, .int .i64 6, .int .i64 25, .int .i64 12, .int .i64 1, .int .i64 31] : Array Value)[j * 3 + 2]? = some (.int .i64 ((([7, 8, 25, 31] : List Nat).getD j 0 : Nat) : Int)) := by
    intro j hj
    have hc : j = 0 ∨ j = 1 ∨ j = 2 ∨ j = 3 := by omega
    rcases hc with rfl | rfl | rfl | rfl <;> exact ⟨rfl, rfl, rfl⟩
  exact enc_core o d a b n 66 (l : Int) (m : Int) ((0 : Nat) : Int) _ ⟨#[97, 98]⟩ w hF hR has_4 (by decide) hd ha hb 4 (by decide) _ (fun j => ([11, 1, 5, 12] : List Nat).getD j 0) (fun j => ([1, 4, 6, 1] : List Nat).getD j 0) (fun j => ([7, 8, 25, 31] : List Nat).getD j 0) pieces_4 hcs (by decide) (wd_4 l m hl hm d a b n hr) rfl rfl rfl
theorem enck_5 (o d a b n : Int) (l : Nat) (hl : l < 128) (w : World) (hF : FormAt o 85 (l : Int) ((0 : Nat) : Int) ((0 : Nat) : Int)) (hr : rightB d a b n sh5 = true)
    (hR : ∀ w, Calls Tryz.prog 23 #[instV o d a b n] w fun e w' => e = .returned (.bool true) ∧ Below w.heap.size w w') :
    Calls Tryz.prog 14 #[instV o d a b n] w fun e w' => e = .returned (.tuple #[.int .u32 (encV (l : Int) ((0 : Nat) : Int) ((0 : Nat) : Int) d a b n sh5), .int .i64 0]) ∧ Below w.heap.size w w' := by
  obtain ⟨hd, ha, hb⟩ := regs_in hr
  have hcs : ∀ j, j < 1 → (#[.int .i64 12, .int .i64 20, .int .i64 12] : Array Value)[j * 3]? = some (.int .i64 ((([12] : List Nat).getD j 0 : Nat) : Int)) ∧ (#[.int .i64 12, .int .i64 20, .int .i64 12] : Array Value)[j * 3 + 1]? = some (.int .i64 ((([20] : List Nat).getD j 0 : Nat) : Int)) ∧ (#[.int .i64 12, .int .i64 20, .int .i64 12] : Array Value)[j * 3 + 2]? = some (.int .i64 ((([12] : List Nat).getD j 0 : Nat) : Int)) := by
    intro j hj
    have hc : j = 0 := by omega
    rcases hc with rfl <;> exact ⟨rfl, rfl, rfl⟩
  exact enc_U o d a b n (l : Int) ((0 : Nat) : Int) ((0 : Nat) : Int) _ ⟨#[100]⟩ w hF hR has_5 (by decide) hd ha hb 1 (by decide) _ (fun j => ([12] : List Nat).getD j 0) (fun j => ([20] : List Nat).getD j 0) (fun j => ([12] : List Nat).getD j 0) pieces_5 hcs (by decide) (wd_5 l hl d a b n hr)
theorem enck_6 (o d a b n : Int) (l : Nat) (hl : l < 128) (w : World) (hF : FormAt o 74 (l : Int) ((0 : Nat) : Int) ((0 : Nat) : Int)) (hr : rightB d a b n sh6 = true)
    (hR : ∀ w, Calls Tryz.prog 23 #[instV o d a b n] w fun e w' => e = .returned (.bool true) ∧ Below w.heap.size w w') :
    Calls Tryz.prog 14 #[instV o d a b n] w fun e w' => e = .returned (.tuple #[.int .u32 (encV (l : Int) ((0 : Nat) : Int) ((0 : Nat) : Int) d a b n sh6), .int .i64 0]) ∧ Below w.heap.size w w' := by
  obtain ⟨hd, ha, hb⟩ := regs_in hr
  have hcs : ∀ j, j < 4 → (#[.int .i64 12, .int .i64 8, .int .i64 12, .int .i64 11, .int .i64 1, .int .i64 20, .int .i64 1, .int .i64 10, .int .i64 21, .int .i64 20, .int .i64 1, .int .i64 31] : Array Value)[j * 3]? = some (.int .i64 ((([12, 11, 1, 20] : List Nat).getD j 0 : Nat) : Int)) ∧ (#[.int .i64 12, .int .i64 8, .int .i64 12, .int .i64 11, .int .i64 1, .int .i64 20, .int .i64 1, .int .i64 10, .int .i64 21, .int .i64 20, .int .i64 1, .int .i64 31] : Array Value)[j * 3 + 1]? = some (.int .i64 ((([8, 1, 10, 1] : List Nat).getD j 0 : Nat) : Int)) ∧ (#[.int .i64 12, .int .i64 8, .int .i64 12, .int .i64 11, .int .i64 1, .int .i64 20, .int .i64 1, .int .i64 10, .int .i64 21, .int .i64 20, .int .i64 1, .int .i64 31] : Array Value)[j * 3 + 2]? = some (.int .i64 ((([12, 20, 21, 31] : List Nat).getD j 0 : Nat) : Int)) := by
    intro j hj
    have hc : j = 0 ∨ j = 1 ∨ j = 2 ∨ j = 3 := by omega
    rcases hc with rfl | rfl | rfl | rfl <;> exact ⟨rfl, rfl, rfl⟩
  exact enc_J o d a b n (l : Int) ((0 : Nat) : Int) ((0 : Nat) : Int) _ ⟨#[100]⟩ w hF hR has_6 (by decide) hd ha hb 4 (by decide) _ (fun j => ([12, 11, 1, 20] : List Nat).getD j 0) (fun j => ([8, 1, 10, 1] : List Nat).getD j 0) (fun j => ([12, 20, 21, 31] : List Nat).getD j 0) pieces_6 hcs (by decide) (wd_6 l hl d a b n hr)
theorem enck_7 (o d a b n : Int) (l : Nat) (hl : l < 128) (w : World) (hF : FormAt o 69 (l : Int) ((0 : Nat) : Int) ((0 : Nat) : Int)) (hr : rightB d a b n sh7 = true)
    (hR : ∀ w, Calls Tryz.prog 23 #[instV o d a b n] w fun e w' => e = .returned (.bool true) ∧ Below w.heap.size w w') :
    Calls Tryz.prog 14 #[instV o d a b n] w fun e w' => e = .returned (.tuple #[.int .u32 (encV (l : Int) ((0 : Nat) : Int) ((0 : Nat) : Int) d a b n sh7), .int .i64 0]) ∧ Below w.heap.size w w' := by
  obtain ⟨hd, ha, hb⟩ := regs_in hr
  exact enc_E o d a b n (l : Int) ((0 : Nat) : Int) ((0 : Nat) : Int) _ ⟨#[]⟩ w hF hR has_7 (by decide) hd ha hb pieces_7 (wd_7 l hl d a b n hr)
theorem encdoc_in (o : Nat) (h1 : 1 ≤ o) (h2 : o ≤ 31) (d a b n : Int) (w : World) (hr : rightB d a b n (T.sh (T.kd o)) = true)
    (hR : ∀ w, Calls Tryz.prog 23 #[instV o d a b n] w fun e w' => e = .returned (.bool true) ∧ Below w.heap.size w w') :
    Calls Tryz.prog 14 #[instV o d a b n] w fun e w' => e = .returned (.tuple #[.int .u32 (encV (T.lo o) (T.md o) (T.hg o) d a b n (T.sh (T.kd o))), .int .i64 0]) ∧ Below w.heap.size w w' := by
  rcases lt32 h1 h2 with rfl | rfl | rfl | rfl | rfl | rfl | rfl | rfl | rfl | rfl | rfl | rfl | rfl | rfl | rfl | rfl | rfl | rfl | rfl | rfl | rfl | rfl | rfl | rfl | rfl | rfl | rfl | rfl | rfl | rfl | rfl
  · exact enck_0 _ d a b n 51 0 0 (by decide) (by decide) (by decide) w formOf_1 hr hR
  · exact enck_0 _ d a b n 51 0 32 (by decide) (by decide) (by decide) w formOf_2 hr hR
  · exact enck_0 _ d a b n 51 0 1 (by decide) (by decide) (by decide) w formOf_3 hr hR
  · exact enck_0 _ d a b n 51 4 1 (by decide) (by decide) (by decide) w formOf_4 hr hR
  · exact enck_0 _ d a b n 51 6 1 (by decide) (by decide) (by decide) w formOf_5 hr hR
  · exact enck_0 _ d a b n 51 7 0 (by decide) (by decide) (by decide) w formOf_6 hr hR
  · exact enck_0 _ d a b n 51 6 0 (by decide) (by decide) (by decide) w formOf_7 hr hR
  · exact enck_0 _ d a b n 51 4 0 (by decide) (by decide) (by decide) w formOf_8 hr hR
  · exact enck_0 _ d a b n 51 2 0 (by decide) (by decide) (by decide) w formOf_9 hr hR
  · exact enck_0 _ d a b n 51 3 0 (by decide) (by decide) (by decide) w formOf_10 hr hR
  · exact enck_0 _ d a b n 51 1 0 (by decide) (by decide) (by decide) w formOf_11 hr hR
  · exact enck_0 _ d a b n 51 5 0 (by decide) (by decide) (by decide) w formOf_12 hr hR
  · exact enck_0 _ d a b n 51 5 32 (by decide) (by decide) (by decide) w formOf_13 hr hR
  · exact enck_1 _ d a b n 19 0 (by decide) (by decide) w formOf_14 hr hR
  · exact enck_1 _ d a b n 19 7 (by decide) (by decide) w formOf_15 hr hR
  · exact enck_1 _ d a b n 19 6 (by decide) (by decide) w formOf_16 hr hR
  · exact enck_1 _ d a b n 19 4 (by decide) (by decide) w formOf_17 hr hR
  · exact enck_1 _ d a b n 19 2 (by decide) (by decide) w formOf_18 hr hR
  · exact enck_2 _ d a b n 19 1 0 (by decide) (by decide) (by decide) w formOf_19 hr hR
  · exact enck_2 _ d a b n 19 5 0 (by decide) (by decide) (by decide) w formOf_20 hr hR
  · exact enck_2 _ d a b n 19 5 16 (by decide) (by decide) (by decide) w formOf_21 hr hR
  · exact enck_1 _ d a b n 3 3 (by decide) (by decide) w formOf_22 hr hR
  · exact enck_1 _ d a b n 103 0 (by decide) (by decide) w formOf_23 hr hR
  · exact enck_3 _ d a b n 35 3 (by decide) (by decide) w formOf_24 hr hR
  · exact enck_4 _ d a b n 99 0 (by decide) (by decide) w formOf_25 hr hR
  · exact enck_4 _ d a b n 99 1 (by decide) (by decide) w formOf_26 hr hR
  · exact enck_4 _ d a b n 99 4 (by decide) (by decide) w formOf_27 hr hR
  · exact enck_4 _ d a b n 99 5 (by decide) (by decide) w formOf_28 hr hR
  · exact enck_5 _ d a b n 55 (by decide) w formOf_29 hr hR
  · exact enck_6 _ d a b n 111 (by decide) w formOf_30 hr hR
  · exact enck_7 _ d a b n 115 (by decide) w formOf_31 hr hR
theorem encdoc_ok (o d a b n : Int) (w : World) (hr : Rt o d a b n = true) :
    Calls Tryz.prog 14 #[instV o d a b n] w fun e w' => e = .returned (.tuple #[.int .u32 (Wd o d a b n), .int .i64 0]) ∧ Below w.heap.size w w' := by
  have hR := right_doc o d a b n
  rw [hr] at hR
  obtain ⟨h1, h2, h3⟩ := Rt_split hr
  obtain ⟨k, rfl⟩ := Int.eq_ofNat_of_zero_le (show 0 ≤ o by omega)
  exact encdoc_in k (by omega) (by omega) d a b n w h3 hR
end Go.Proofs.YtjjjdplgdlaihaaGreatDoor
