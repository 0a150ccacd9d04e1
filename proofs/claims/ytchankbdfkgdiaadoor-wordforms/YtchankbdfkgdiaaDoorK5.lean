/- A word is one instruction: the plain mathematics. -/
import Derived.Test.YtchankbdfkgdiaaDoorK4
namespace Go.Proofs.YtchankbdfkgdiaaDoor
open Go Go.RowKit

theorem fit_t (r : Int) (h : fitB r true = true) : 0 ≤ r ∧ r < 32 := by
  simp [fitB] at h; omega
theorem fit_f (r : Int) (h : fitB r false = true) : r = 0 := by
  simpa [fitB] using h
theorem fit_t_mk (r : Int) (h0 : 0 ≤ r) (h1 : r < 32) : fitB r true = true := by
  simp [fitB]; omega
theorem fit_f_mk : fitB 0 false = true := rfl
/-- A number fits: its ends, and that it is a multiple. -/
theorem nf_iff (n : Int) (s : Sh) (z : Nat) (hz : z ≤ 32) (ez : s.pz = (2 : Int) ^ z) : nfB n s = true ↔ s.lo ≤ n ∧ n < s.hi ∧ n % (2 : Int) ^ z = 0 := by
  unfold nfB
  rw [ez, and64 n z hz]
  simp [and_assoc]

/-- Of kind k, with the op's bits l, m, h: the word of an instruction that may be. -/
structure EncIs (k : Nat) (l m h : Nat) (d a b n : Int) (W : Nat) : Prop where
  lt : W < 4294967296
  enc : encV l m h d a b n (shapesL.getD k sh0) = (W : Int)
  hit : bits .and .u32 (W : Int) (shapesL.getD k sh0).fx = obV l m h
  rd : regV W 128 (shapesL.getD k sh0).rd = d
  ra : regV W 32768 (shapesL.getD k sh0).ra = a
  rb : regV W 1048576 (shapesL.getD k sh0).rb = b
  num : gatherV W (phL.getD k 0) (shapesL.getD k sh0) = n

theorem pc_int (n : Int) (f c : Nat) : ((pc n f c : Nat) : Int) = n / (2 : Int) ^ f % (2 : Int) ^ c := by
  have hp1 : 0 < (2 : Int) ^ c := by exact_mod_cast (Nat.two_pow_pos c)
  have h1 : 0 ≤ n / (2 : Int) ^ f % (2 : Int) ^ c := Int.emod_nonneg _ (by omega)
  unfold pc
  omega
theorem sgV_is (G ph pw n : Int) (h0 : 0 ≤ G) (hp : 0 < ph) (h1 : G < ph → n = G) (h2 : ph ≤ G → n = G - pw) (hb : -9223372036854775808 ≤ G - pw ∧ G - pw ≤ 9223372036854775807) : sgV true G ph pw = n := by
  unfold sgV
  by_cases h : G < ph
  · have e : G / ph = 0 := Int.ediv_eq_zero_of_lt h0 h
    simp [e, h1 h]
  · have e : G / ph ≠ 0 := by
      have : 1 ≤ G / ph := Int.le_ediv_of_mul_le hp (by omega)
      omega
    simp [e, wrap_in _ hb, h2 (by omega)]

theorem andN (a b : Nat) (ha : a < 4294967296) (hb : b < 4294967296) : bits .and .u32 (a : Int) (b : Int) = ((a &&& b : Nat) : Int) := by
  rw [and32 _ _ (by omega) (by omega) (by omega) (by omega)]; simp only [Int.toNat_natCast]
theorem fin1 (n : Int) (y0 : Nat) (p0 : (y0 : Int) = n / 1 % 4096) (n0 : (-2048 : Int) ≤ n) (n1 : n < 2048) (_ : n % 1 = 0) : sgV true ((y0 * 1 : Nat) : Int) 2048 4096 = n := by
  have key : ((y0 * 1 : Nat) : Int) = n % 4096 := by
    omega
  rw [key]
  clear key p0
  exact sgV_is _ _ _ _ (by omega) (by omega) (by omega) (by omega) (by omega)
theorem fin3 (n : Int) (y0 y1 : Nat) (p0 : (y0 : Int) = n / 1 % 32) (p1 : (y1 : Int) = n / 32 % 128) (n0 : (-2048 : Int) ≤ n) (n1 : n < 2048) (_ : n % 1 = 0) : sgV true ((y0 * 1 + y1 * 32 : Nat) : Int) 2048 4096 = n := by
  have key : ((y0 * 1 + y1 * 32 : Nat) : Int) = n % 4096 := by
    omega
  rw [key]
  clear key p0 p1
  exact sgV_is _ _ _ _ (by omega) (by omega) (by omega) (by omega) (by omega)
theorem fin4 (n : Int) (y0 y1 y2 y3 : Nat) (p0 : (y0 : Int) = n / 2048 % 2) (p1 : (y1 : Int) = n / 2 % 16) (p2 : (y2 : Int) = n / 32 % 64) (p3 : (y3 : Int) = n / 4096 % 2) (n0 : (-4096 : Int) ≤ n) (n1 : n < 4096) (n2 : n % 2 = 0) : sgV true ((y0 * 2048 + y1 * 2 + y2 * 32 + y3 * 4096 : Nat) : Int) 4096 8192 = n := by
  have key : ((y0 * 2048 + y1 * 2 + y2 * 32 + y3 * 4096 : Nat) : Int) = n % 8192 := by
    obtain ⟨q, rfl⟩ : ∃ q, n = 2 * q := ⟨n / 2, by omega⟩
    have d0 : 2 * q / 2 = q := by omega
    have d1 : 2 * q / 32 = q / 16 := by omega
    have d2 : 2 * q / 2048 = q / 16 / 64 := by omega
    have d3 : 2 * q / 4096 = q / 16 / 64 / 2 := by omega
    rw [d2] at p0; rw [d0] at p1; rw [d1] at p2; rw [d3] at p3
    generalize hr : q / 16 = r at *
    generalize ht : r / 64 = t at *
    generalize hv : t / 2 = v at *
    clear d0 d1 d2 d3
    omega
  rw [key]
  clear key p0 p1 p2 p3 n2
  exact sgV_is _ _ _ _ (by omega) (by omega) (by omega) (by omega) (by omega)
theorem fin5 (n : Int) (y0 : Nat) (p0 : (y0 : Int) = n / 4096 % 1048576) (n0 : (-2147483648 : Int) ≤ n) (n1 : n < 2147483648) (n2 : n % 4096 = 0) : sgV true ((y0 * 4096 : Nat) : Int) 2147483648 4294967296 = n := by
  have key : ((y0 * 4096 : Nat) : Int) = n % 4294967296 := by
    omega
  rw [key]
  clear key p0 n2
  exact sgV_is _ _ _ _ (by omega) (by omega) (by omega) (by omega) (by omega)
theorem fin6 (n : Int) (y0 y1 y2 y3 : Nat) (p0 : (y0 : Int) = n / 4096 % 256) (p1 : (y1 : Int) = n / 2048 % 2) (p2 : (y2 : Int) = n / 2 % 1024) (p3 : (y3 : Int) = n / 1048576 % 2) (n0 : (-1048576 : Int) ≤ n) (n1 : n < 1048576) (n2 : n % 2 = 0) : sgV true ((y0 * 4096 + y1 * 2048 + y2 * 2 + y3 * 1048576 : Nat) : Int) 1048576 2097152 = n := by
  have key : ((y0 * 4096 + y1 * 2048 + y2 * 2 + y3 * 1048576 : Nat) : Int) = n % 2097152 := by
    obtain ⟨q, rfl⟩ : ∃ q, n = 2 * q := ⟨n / 2, by omega⟩
    have d0 : 2 * q / 2 = q := by omega
    have d1 : 2 * q / 2048 = q / 1024 := by omega
    have d2 : 2 * q / 4096 = q / 1024 / 2 := by omega
    have d3 : 2 * q / 1048576 = q / 1024 / 2 / 256 := by omega
    rw [d2] at p0; rw [d1] at p1; rw [d0] at p2; rw [d3] at p3
    generalize hr : q / 1024 = r at *
    generalize ht : r / 2 = t at *
    generalize hv : t / 256 = v at *
    clear d0 d1 d2 d3
    omega
  rw [key]
  clear key p0 p1 p2 p3 n2
  exact sgV_is _ _ _ _ (by omega) (by omega) (by omega) (by omega) (by omega)

theorem encK0 (l m h : Nat) (hl : l < 128) (hm : m < 8) (hh : h < 128) (d a b n : Int) (hr : rightB d a b n sh0 = true) : ∃ W, EncIs 0 l m h d a b n W := by
  simp only [rightB, Bool.and_eq_true] at hr
  obtain ⟨⟨⟨h1, h2⟩, h3⟩, h4⟩ := hr
  obtain ⟨d0, d1⟩ := fit_t d h1
  obtain ⟨a0, a1⟩ := fit_t a h2
  obtain ⟨b0, b1⟩ := fit_t b h3
  rw [nf_iff n sh0 0 (by omega) rfl] at h4
  have hn : n = 0 := by
    obtain ⟨n0, n1, _⟩ := h4
    have e1 : sh0.lo = 0 := rfl
    have e2 : sh0.hi = 1 := rfl
    omega
  obtain ⟨d, rfl⟩ := Int.eq_ofNat_of_zero_le d0
  obtain ⟨a, rfl⟩ := Int.eq_ofNat_of_zero_le a0
  obtain ⟨b, rfl⟩ := Int.eq_ofNat_of_zero_le b0
  subst hn
  obtain ⟨e1, w1⟩ := obV_eq l m h hl hm hh
  obtain ⟨e2, w2⟩ := rg_dab d a b (by omega) (by omega) (by omega)
  obtain ⟨e3, w3⟩ := sp0 0
  have eW := enc3 e1 e2 e3 w1 w2 w3 (by decide) (by decide) (by decide) (by decide) (by decide)
  have hlt : l + m * 4096 + h * 33554432 + (d * 128 + a * 32768 + b * 1048576) + 0 < 4294967296 := by omega
  generalize hW : l + m * 4096 + h * 33554432 + (d * 128 + a * 32768 + b * 1048576) + 0 = W at *
  refine ⟨W, hlt, eW, ?_, ?_, ?_, ?_, ?_⟩
  · show bits .and .u32 (W : Int) ((4261441663 : Nat) : Int) = _
    rw [and32 _ _ (by omega) (by omega) (by omega) (by omega), e1]
    simp only [Int.toNat_natCast]
    rw [a_R]
    omega
  · show regV W ((128 : Nat) : Int) true = _
    rw [regV_t W 128 hlt]
    omega
  · show regV W ((32768 : Nat) : Int) true = _
    rw [regV_t W 32768 hlt]
    omega
  · show regV W ((1048576 : Nat) : Int) true = _
    rw [regV_t W 1048576 hlt]
    omega
  · show sgV false (gatTo (W : Int) sh0.ms 4) _ _ = 0
    rw [gt0]
    rfl
end Go.Proofs.YtchankbdfkgdiaaDoor
