/- A word is one instruction: back from a word. -/
import Derived.Test.YtchankbdfkgdiaaDoorK6
namespace Go.Proofs.YtchankbdfkgdiaaDoor
open Go Go.RowKit

theorem sg_two (G ph pw : Int) (h0 : 0 ≤ G) (hp : 0 < ph) (hb : -9223372036854775808 ≤ G - pw ∧ G - pw ≤ 9223372036854775807) : (G < ph ∧ sgV true G ph pw = G) ∨ (ph ≤ G ∧ sgV true G ph pw = G - pw) := by
  by_cases h : G < ph
  · exact .inl ⟨h, sgV_is G ph pw G h0 hp (fun _ => rfl) (fun h' => by omega) hb⟩
  · exact .inr ⟨by omega, sgV_is G ph pw (G - pw) h0 hp (fun h' => by omega) (fun _ => rfl) hb⟩

structure DecIs (k : Nat) (l m h : Nat) (W : Nat) : Prop where
  right : rightB (regV W 128 (shapesL.getD k sh0).rd) (regV W 32768 (shapesL.getD k sh0).ra) (regV W 1048576 (shapesL.getD k sh0).rb) (gatherV W (phL.getD k 0) (shapesL.getD k sh0)) (shapesL.getD k sh0) = true
  enc : encV l m h (regV W 128 (shapesL.getD k sh0).rd) (regV W 32768 (shapesL.getD k sh0).ra) (regV W 1048576 (shapesL.getD k sh0).rb) (gatherV W (phL.getD k 0) (shapesL.getD k sh0)) (shapesL.getD k sh0) = (W : Int)
theorem rec0 (W : Nat) (hlt : W < 4294967296) : W = (W / 1 % 128) * 1 + (W / 128 % 32) * 128 + (W / 4096 % 8) * 4096 + (W / 32768 % 32) * 32768 + (W / 1048576 % 32) * 1048576 + (W / 33554432 % 128) * 33554432 := by
  have d1 : W / 128 = W / 1 / 128 := by omega
  have d2 : W / 4096 = W / 128 / 32 := by omega
  have d3 : W / 32768 = W / 4096 / 8 := by omega
  have d4 : W / 1048576 = W / 32768 / 32 := by omega
  have d5 : W / 33554432 = W / 1048576 / 32 := by omega
  have d0 : W / 1 = W := by omega
  generalize W / 128 = g1 at *
  generalize W / 4096 = g2 at *
  generalize W / 32768 = g3 at *
  generalize W / 1048576 = g4 at *
  generalize W / 33554432 = g5 at *
  omega
theorem rec1 (W : Nat) (hlt : W < 4294967296) : W = (W / 1 % 128) * 1 + (W / 128 % 32) * 128 + (W / 4096 % 8) * 4096 + (W / 32768 % 32) * 32768 + (W / 1048576 % 4096) * 1048576 := by
  have d1 : W / 128 = W / 1 / 128 := by omega
  have d2 : W / 4096 = W / 128 / 32 := by omega
  have d3 : W / 32768 = W / 4096 / 8 := by omega
  have d4 : W / 1048576 = W / 32768 / 32 := by omega
  have d0 : W / 1 = W := by omega
  generalize W / 128 = g1 at *
  generalize W / 4096 = g2 at *
  generalize W / 32768 = g3 at *
  generalize W / 1048576 = g4 at *
  omega
theorem rec2 (W : Nat) (hlt : W < 4294967296) : W = (W / 1 % 128) * 1 + (W / 128 % 32) * 128 + (W / 4096 % 8) * 4096 + (W / 32768 % 32) * 32768 + (W / 1048576 % 64) * 1048576 + (W / 67108864 % 64) * 67108864 := by
  have d1 : W / 128 = W / 1 / 128 := by omega
  have d2 : W / 4096 = W / 128 / 32 := by omega
  have d3 : W / 32768 = W / 4096 / 8 := by omega
  have d4 : W / 1048576 = W / 32768 / 32 := by omega
  have d5 : W / 67108864 = W / 1048576 / 64 := by omega
  have d0 : W / 1 = W := by omega
  generalize W / 128 = g1 at *
  generalize W / 4096 = g2 at *
  generalize W / 32768 = g3 at *
  generalize W / 1048576 = g4 at *
  generalize W / 67108864 = g5 at *
  omega
theorem rec3 (W : Nat) (hlt : W < 4294967296) : W = (W / 1 % 128) * 1 + (W / 128 % 32) * 128 + (W / 4096 % 8) * 4096 + (W / 32768 % 32) * 32768 + (W / 1048576 % 32) * 1048576 + (W / 33554432 % 128) * 33554432 := by
  have d1 : W / 128 = W / 1 / 128 := by omega
  have d2 : W / 4096 = W / 128 / 32 := by omega
  have d3 : W / 32768 = W / 4096 / 8 := by omega
  have d4 : W / 1048576 = W / 32768 / 32 := by omega
  have d5 : W / 33554432 = W / 1048576 / 32 := by omega
  have d0 : W / 1 = W := by omega
  generalize W / 128 = g1 at *
  generalize W / 4096 = g2 at *
  generalize W / 32768 = g3 at *
  generalize W / 1048576 = g4 at *
  generalize W / 33554432 = g5 at *
  omega
theorem rec4 (W : Nat) (hlt : W < 4294967296) : W = (W / 1 % 128) * 1 + (W / 128 % 2) * 128 + (W / 256 % 16) * 256 + (W / 4096 % 8) * 4096 + (W / 32768 % 32) * 32768 + (W / 1048576 % 32) * 1048576 + (W / 33554432 % 64) * 33554432 + (W / 2147483648 % 2) * 2147483648 := by
  have d1 : W / 128 = W / 1 / 128 := by omega
  have d2 : W / 256 = W / 128 / 2 := by omega
  have d3 : W / 4096 = W / 256 / 16 := by omega
  have d4 : W / 32768 = W / 4096 / 8 := by omega
  have d5 : W / 1048576 = W / 32768 / 32 := by omega
  have d6 : W / 33554432 = W / 1048576 / 32 := by omega
  have d7 : W / 2147483648 = W / 33554432 / 64 := by omega
  have d0 : W / 1 = W := by omega
  generalize W / 128 = g1 at *
  generalize W / 256 = g2 at *
  generalize W / 4096 = g3 at *
  generalize W / 32768 = g4 at *
  generalize W / 1048576 = g5 at *
  generalize W / 33554432 = g6 at *
  generalize W / 2147483648 = g7 at *
  omega
theorem rec5 (W : Nat) (hlt : W < 4294967296) : W = (W / 1 % 128) * 1 + (W / 128 % 32) * 128 + (W / 4096 % 1048576) * 4096 := by
  have d1 : W / 128 = W / 1 / 128 := by omega
  have d2 : W / 4096 = W / 128 / 32 := by omega
  have d0 : W / 1 = W := by omega
  generalize W / 128 = g1 at *
  generalize W / 4096 = g2 at *
  omega
theorem rec6 (W : Nat) (hlt : W < 4294967296) : W = (W / 1 % 128) * 1 + (W / 128 % 32) * 128 + (W / 4096 % 256) * 4096 + (W / 1048576 % 2) * 1048576 + (W / 2097152 % 1024) * 2097152 + (W / 2147483648 % 2) * 2147483648 := by
  have d1 : W / 128 = W / 1 / 128 := by omega
  have d2 : W / 4096 = W / 128 / 32 := by omega
  have d3 : W / 1048576 = W / 4096 / 256 := by omega
  have d4 : W / 2097152 = W / 1048576 / 2 := by omega
  have d5 : W / 2147483648 = W / 2097152 / 1024 := by omega
  have d0 : W / 1 = W := by omega
  generalize W / 128 = g1 at *
  generalize W / 4096 = g2 at *
  generalize W / 1048576 = g3 at *
  generalize W / 2097152 = g4 at *
  generalize W / 2147483648 = g5 at *
  omega

theorem decK0 (l m h : Nat) (hl : l < 128) (hm : m < 8) (hh : h < 128) (W : Nat) (hlt : W < 4294967296) (hit : bits .and .u32 (W : Int) sh0.fx = obV (l : Int) (m : Int) (h : Int)) : DecIs 0 l m h W := by
  obtain ⟨e1, w1⟩ := obV_eq l m h hl hm hh
  replace e1 : obV (l : Int) (m : Int) (h : Int) = ((l + m * 4096 + h * 33554432 : Nat) : Int) := e1
  replace hit : bits .and .u32 (W : Int) ((4261441663 : Nat) : Int) = _ := hit
  rw [andN W _ hlt (by omega), e1, a_R] at hit
  have xl : W % 128 = l := by clear e1; omega
  have xm : W / 4096 % 8 = m := by clear e1; omega
  have xh : W / 33554432 % 128 = h := by clear e1; omega
  have vd : W / 128 % 32 < 32 := Nat.mod_lt _ (by omega)
  have va : W / 32768 % 32 < 32 := Nat.mod_lt _ (by omega)
  have vb : W / 1048576 % 32 < 32 := Nat.mod_lt _ (by omega)
  have Rd : regV W 128 sh0.rd = ((W / 128 % 32 : Nat) : Int) := regV_t W 128 hlt
  have Ra : regV W 32768 sh0.ra = ((W / 32768 % 32 : Nat) : Int) := regV_t W 32768 hlt
  have Rb : regV W 1048576 sh0.rb = ((W / 1048576 % 32 : Nat) : Int) := regV_t W 1048576 hlt
  obtain ⟨n, hn, hcase⟩ : ∃ n, gatherV W 1 sh0 = n ∧ n = ((0 : Nat) : Int) := by
    refine ⟨_, rfl, ?_⟩
    show sgV false (gatTo (W : Int) sh0.ms 4) _ _ = _
    rw [gt0]
    rfl
  have hrec := rec0 W hlt
  rw [show W / 1 = W by omega, xl, xm, xh] at hrec
  generalize W / 128 % 32 = d at *
  generalize W / 32768 % 32 = a at *
  generalize W / 1048576 % 32 = b at *
  have nn : (0 : Int) ≤ n ∧ n < 1 ∧ n % 1 = 0 := by clear hrec e1 hit; omega
  refine ⟨?_, ?_⟩
  · show rightB (regV W 128 sh0.rd) (regV W 32768 sh0.ra) (regV W 1048576 sh0.rb) (gatherV W 1 sh0) sh0 = true
    rw [Rd, Ra, Rb, hn]
    simp only [rightB, Bool.and_eq_true]
    exact ⟨⟨⟨fit_t_mk _ (by omega) (by omega), fit_t_mk _ (by omega) (by omega)⟩, fit_t_mk _ (by omega) (by omega)⟩, (nf_iff n sh0 0 (by omega) rfl).2 nn⟩
  · show encV (l : Int) (m : Int) (h : Int) (regV W 128 sh0.rd) (regV W 32768 sh0.ra) (regV W 1048576 sh0.rb) (gatherV W 1 sh0) sh0 = (W : Int)
    rw [Rd, Ra, Rb, hn]
    obtain ⟨e2, w2⟩ := rg_dab d a b vd va vb
    obtain ⟨e3, w3⟩ := sp0 n
    rw [enc3 e1 e2 e3 w1 w2 w3 (by decide) (by decide) (by decide) (by decide) (by decide)]
    clear hcase nn hit w1 w2 w3 e1 e2 e3
    omega

theorem decK1 (l m : Nat) (hl : l < 128) (hm : m < 8) (W : Nat) (hlt : W < 4294967296) (hit : bits .and .u32 (W : Int) sh1.fx = obV (l : Int) (m : Int) ((0 : Nat) : Int)) : DecIs 1 l m 0 W := by
  obtain ⟨e1, w1⟩ := ob2 l m hl hm
  replace e1 : obV (l : Int) (m : Int) ((0 : Nat) : Int) = ((l + m * 4096 : Nat) : Int) := e1
  replace hit : bits .and .u32 (W : Int) ((28799 : Nat) : Int) = _ := hit
  rw [andN W _ hlt (by omega), e1, a_lm] at hit
  have xl : W % 128 = l := by clear e1; omega
  have xm : W / 4096 % 8 = m := by clear e1; omega
  have vd : W / 128 % 32 < 32 := Nat.mod_lt _ (by omega)
  have va : W / 32768 % 32 < 32 := Nat.mod_lt _ (by omega)
  have Rd : regV W 128 sh1.rd = ((W / 128 % 32 : Nat) : Int) := regV_t W 128 hlt
  have Ra : regV W 32768 sh1.ra = ((W / 32768 % 32 : Nat) : Int) := regV_t W 32768 hlt
  have Rb : regV W 1048576 sh1.rb = 0 := rfl
  have s0 : W / 1048576 % 4096 < 4096 := Nat.mod_lt _ (by omega)
  obtain ⟨n, hn, hcase⟩ : ∃ n, gatherV W 2048 sh1 = n ∧ (((((W / 1048576 % 4096) * 1 : Nat) : Int) < 2048 ∧ n = (((W / 1048576 % 4096) * 1 : Nat) : Int)) ∨ (2048 ≤ (((W / 1048576 % 4096) * 1 : Nat) : Int) ∧ n = (((W / 1048576 % 4096) * 1 : Nat) : Int) - 4096)) := by
    refine ⟨_, rfl, ?_⟩
    show (_ ∧ sgV true (gatTo (W : Int) sh1.ms 4) 2048 4096 = _) ∨ (_ ∧ sgV true (gatTo (W : Int) sh1.ms 4) 2048 4096 = _)
    rw [gt1]
    exact sg_two _ _ _ (by omega) (by omega) (by clear hit e1; omega)
  have hrec := rec1 W hlt
  rw [show W / 1 = W by omega, xl, xm] at hrec
  generalize W / 1048576 % 4096 = y0 at *
  generalize W / 128 % 32 = d at *
  generalize W / 32768 % 32 = a at *
  have nn : (-2048 : Int) ≤ n ∧ n < 2048 ∧ n % 1 = 0 := by clear hrec e1 hit; omega
  have p0 : ((pc n 0 12 : Nat) : Int) = n / 1 % 4096 := pc_int n 0 12
  have z0 : pc n 0 12 = y0 := by clear hrec e1 hit nn; omega
  clear p0
  refine ⟨?_, ?_⟩
  · show rightB (regV W 128 sh1.rd) (regV W 32768 sh1.ra) (regV W 1048576 sh1.rb) (gatherV W 2048 sh1) sh1 = true
    rw [Rd, Ra, Rb, hn]
    simp only [rightB, Bool.and_eq_true]
    exact ⟨⟨⟨fit_t_mk _ (by omega) (by omega), fit_t_mk _ (by omega) (by omega)⟩, rfl⟩, (nf_iff n sh1 0 (by omega) rfl).2 nn⟩
  · show encV (l : Int) (m : Int) ((0 : Nat) : Int) (regV W 128 sh1.rd) (regV W 32768 sh1.ra) (regV W 1048576 sh1.rb) (gatherV W 2048 sh1) sh1 = (W : Int)
    rw [Rd, Ra, Rb, hn]
    obtain ⟨e2, w2⟩ := rg_da d a vd va
    obtain ⟨e3, w3⟩ := sp1 n
    rw [enc3 e1 e2 e3 w1 w2 w3 (by decide) (by decide) (by decide) (by decide) (by decide)]
    rw [z0]
    clear hcase nn hit w1 w2 w3 e1 e2 e3 z0
    omega

theorem decK2 (l m q : Nat) (hl : l < 128) (hm : m < 8) (hq : q < 64) (W : Nat) (hlt : W < 4294967296) (hit : bits .and .u32 (W : Int) sh2.fx = obV (l : Int) (m : Int) ((2 * q : Nat) : Int)) : DecIs 2 l m (2 * q) W := by
  obtain ⟨e1, w1⟩ := obH l m q hl hm hq
  replace e1 : obV (l : Int) (m : Int) ((2 * q : Nat) : Int) = ((l + m * 4096 + q * 67108864 : Nat) : Int) := e1
  replace hit : bits .and .u32 (W : Int) ((4227887231 : Nat) : Int) = _ := hit
  rw [andN W _ hlt (by omega), e1, a_H] at hit
  have xl : W % 128 = l := by clear e1; omega
  have xm : W / 4096 % 8 = m := by clear e1; omega
  have xq : W / 67108864 % 64 = q := by clear e1; omega
  have vd : W / 128 % 32 < 32 := Nat.mod_lt _ (by omega)
  have va : W / 32768 % 32 < 32 := Nat.mod_lt _ (by omega)
  have Rd : regV W 128 sh2.rd = ((W / 128 % 32 : Nat) : Int) := regV_t W 128 hlt
  have Ra : regV W 32768 sh2.ra = ((W / 32768 % 32 : Nat) : Int) := regV_t W 32768 hlt
  have Rb : regV W 1048576 sh2.rb = 0 := rfl
  have s0 : W / 1048576 % 64 < 64 := Nat.mod_lt _ (by omega)
  obtain ⟨n, hn, hcase⟩ : ∃ n, gatherV W 1 sh2 = n ∧ n = (((W / 1048576 % 64) * 1 : Nat) : Int) := by
    refine ⟨_, rfl, ?_⟩
    show sgV false (gatTo (W : Int) sh2.ms 4) _ _ = _
    rw [gt2]
    rfl
  have hrec := rec2 W hlt
  rw [show W / 1 = W by omega, xl, xm, xq] at hrec
  generalize W / 1048576 % 64 = y0 at *
  generalize W / 128 % 32 = d at *
  generalize W / 32768 % 32 = a at *
  have nn : (0 : Int) ≤ n ∧ n < 64 ∧ n % 1 = 0 := by clear hrec e1 hit; omega
  have p0 : ((pc n 0 6 : Nat) : Int) = n / 1 % 64 := pc_int n 0 6
  have z0 : pc n 0 6 = y0 := by clear hrec e1 hit nn; omega
  clear p0
  refine ⟨?_, ?_⟩
  · show rightB (regV W 128 sh2.rd) (regV W 32768 sh2.ra) (regV W 1048576 sh2.rb) (gatherV W 1 sh2) sh2 = true
    rw [Rd, Ra, Rb, hn]
    simp only [rightB, Bool.and_eq_true]
    exact ⟨⟨⟨fit_t_mk _ (by omega) (by omega), fit_t_mk _ (by omega) (by omega)⟩, rfl⟩, (nf_iff n sh2 0 (by omega) rfl).2 nn⟩
  · show encV (l : Int) (m : Int) ((2 * q : Nat) : Int) (regV W 128 sh2.rd) (regV W 32768 sh2.ra) (regV W 1048576 sh2.rb) (gatherV W 1 sh2) sh2 = (W : Int)
    rw [Rd, Ra, Rb, hn]
    obtain ⟨e2, w2⟩ := rg_da d a vd va
    obtain ⟨e3, w3⟩ := sp2 n
    rw [enc3 e1 e2 e3 w1 w2 w3 (by decide) (by decide) (by decide) (by decide) (by decide)]
    rw [z0]
    clear hcase nn hit w1 w2 w3 e1 e2 e3 z0
    omega

theorem decK3 (l m : Nat) (hl : l < 128) (hm : m < 8) (W : Nat) (hlt : W < 4294967296) (hit : bits .and .u32 (W : Int) sh3.fx = obV (l : Int) (m : Int) ((0 : Nat) : Int)) : DecIs 3 l m 0 W := by
  obtain ⟨e1, w1⟩ := ob2 l m hl hm
  replace e1 : obV (l : Int) (m : Int) ((0 : Nat) : Int) = ((l + m * 4096 : Nat) : Int) := e1
  replace hit : bits .and .u32 (W : Int) ((28799 : Nat) : Int) = _ := hit
  rw [andN W _ hlt (by omega), e1, a_lm] at hit
  have xl : W % 128 = l := by clear e1; omega
  have xm : W / 4096 % 8 = m := by clear e1; omega
  have va : W / 32768 % 32 < 32 := Nat.mod_lt _ (by omega)
  have vb : W / 1048576 % 32 < 32 := Nat.mod_lt _ (by omega)
  have Rd : regV W 128 sh3.rd = 0 := rfl
  have Ra : regV W 32768 sh3.ra = ((W / 32768 % 32 : Nat) : Int) := regV_t W 32768 hlt
  have Rb : regV W 1048576 sh3.rb = ((W / 1048576 % 32 : Nat) : Int) := regV_t W 1048576 hlt
  have s0 : W / 128 % 32 < 32 := Nat.mod_lt _ (by omega)
  have s1 : W / 33554432 % 128 < 128 := Nat.mod_lt _ (by omega)
  obtain ⟨n, hn, hcase⟩ : ∃ n, gatherV W 2048 sh3 = n ∧ (((((W / 128 % 32) * 1 + (W / 33554432 % 128) * 32 : Nat) : Int) < 2048 ∧ n = (((W / 128 % 32) * 1 + (W / 33554432 % 128) * 32 : Nat) : Int)) ∨ (2048 ≤ (((W / 128 % 32) * 1 + (W / 33554432 % 128) * 32 : Nat) : Int) ∧ n = (((W / 128 % 32) * 1 + (W / 33554432 % 128) * 32 : Nat) : Int) - 4096)) := by
    refine ⟨_, rfl, ?_⟩
    show (_ ∧ sgV true (gatTo (W : Int) sh3.ms 4) 2048 4096 = _) ∨ (_ ∧ sgV true (gatTo (W : Int) sh3.ms 4) 2048 4096 = _)
    rw [gt3]
    exact sg_two _ _ _ (by omega) (by omega) (by clear hit e1; omega)
  have hrec := rec3 W hlt
  rw [show W / 1 = W by omega, xl, xm] at hrec
  generalize W / 128 % 32 = y0 at *
  generalize W / 33554432 % 128 = y1 at *
  generalize W / 32768 % 32 = a at *
  generalize W / 1048576 % 32 = b at *
  have nn : (-2048 : Int) ≤ n ∧ n < 2048 ∧ n % 1 = 0 := by clear hrec e1 hit; omega
  have p0 : ((pc n 0 5 : Nat) : Int) = n / 1 % 32 := pc_int n 0 5
  have z0 : pc n 0 5 = y0 := by clear hrec e1 hit nn; omega
  clear p0
  have p1 : ((pc n 5 7 : Nat) : Int) = n / 32 % 128 := pc_int n 5 7
  have z1 : pc n 5 7 = y1 := by clear hrec e1 hit nn; omega
  clear p1
  refine ⟨?_, ?_⟩
  · show rightB (regV W 128 sh3.rd) (regV W 32768 sh3.ra) (regV W 1048576 sh3.rb) (gatherV W 2048 sh3) sh3 = true
    rw [Rd, Ra, Rb, hn]
    simp only [rightB, Bool.and_eq_true]
    exact ⟨⟨⟨rfl, fit_t_mk _ (by omega) (by omega)⟩, fit_t_mk _ (by omega) (by omega)⟩, (nf_iff n sh3 0 (by omega) rfl).2 nn⟩
  · show encV (l : Int) (m : Int) ((0 : Nat) : Int) (regV W 128 sh3.rd) (regV W 32768 sh3.ra) (regV W 1048576 sh3.rb) (gatherV W 2048 sh3) sh3 = (W : Int)
    rw [Rd, Ra, Rb, hn]
    obtain ⟨e2, w2⟩ := rg_ab a b va vb
    obtain ⟨e3, w3⟩ := sp3 n
    rw [enc3 e1 e2 e3 w1 w2 w3 (by decide) (by decide) (by decide) (by decide) (by decide)]
    rw [z0, z1]
    clear hcase nn hit w1 w2 w3 e1 e2 e3 z0 z1
    omega

theorem decK4 (l m : Nat) (hl : l < 128) (hm : m < 8) (W : Nat) (hlt : W < 4294967296) (hit : bits .and .u32 (W : Int) sh4.fx = obV (l : Int) (m : Int) ((0 : Nat) : Int)) : DecIs 4 l m 0 W := by
  obtain ⟨e1, w1⟩ := ob2 l m hl hm
  replace e1 : obV (l : Int) (m : Int) ((0 : Nat) : Int) = ((l + m * 4096 : Nat) : Int) := e1
  replace hit : bits .and .u32 (W : Int) ((28799 : Nat) : Int) = _ := hit
  rw [andN W _ hlt (by omega), e1, a_lm] at hit
  have xl : W % 128 = l := by clear e1; omega
  have xm : W / 4096 % 8 = m := by clear e1; omega
  have va : W / 32768 % 32 < 32 := Nat.mod_lt _ (by omega)
  have vb : W / 1048576 % 32 < 32 := Nat.mod_lt _ (by omega)
  have Rd : regV W 128 sh4.rd = 0 := rfl
  have Ra : regV W 32768 sh4.ra = ((W / 32768 % 32 : Nat) : Int) := regV_t W 32768 hlt
  have Rb : regV W 1048576 sh4.rb = ((W / 1048576 % 32 : Nat) : Int) := regV_t W 1048576 hlt
  have s0 : W / 128 % 2 < 2 := Nat.mod_lt _ (by omega)
  have s1 : W / 256 % 16 < 16 := Nat.mod_lt _ (by omega)
  have s2 : W / 33554432 % 64 < 64 := Nat.mod_lt _ (by omega)
  have s3 : W / 2147483648 % 2 < 2 := Nat.mod_lt _ (by omega)
  obtain ⟨n, hn, hcase⟩ : ∃ n, gatherV W 4096 sh4 = n ∧ (((((W / 128 % 2) * 2048 + (W / 256 % 16) * 2 + (W / 33554432 % 64) * 32 + (W / 2147483648 % 2) * 4096 : Nat) : Int) < 4096 ∧ n = (((W / 128 % 2) * 2048 + (W / 256 % 16) * 2 + (W / 33554432 % 64) * 32 + (W / 2147483648 % 2) * 4096 : Nat) : Int)) ∨ (4096 ≤ (((W / 128 % 2) * 2048 + (W / 256 % 16) * 2 + (W / 33554432 % 64) * 32 + (W / 2147483648 % 2) * 4096 : Nat) : Int) ∧ n = (((W / 128 % 2) * 2048 + (W / 256 % 16) * 2 + (W / 33554432 % 64) * 32 + (W / 2147483648 % 2) * 4096 : Nat) : Int) - 8192)) := by
    refine ⟨_, rfl, ?_⟩
    show (_ ∧ sgV true (gatTo (W : Int) sh4.ms 4) 4096 8192 = _) ∨ (_ ∧ sgV true (gatTo (W : Int) sh4.ms 4) 4096 8192 = _)
    rw [gt4]
    exact sg_two _ _ _ (by omega) (by omega) (by clear hit e1; omega)
  have hrec := rec4 W hlt
  rw [show W / 1 = W by omega, xl, xm] at hrec
  generalize W / 128 % 2 = y0 at *
  generalize W / 256 % 16 = y1 at *
  generalize W / 33554432 % 64 = y2 at *
  generalize W / 2147483648 % 2 = y3 at *
  generalize W / 32768 % 32 = a at *
  generalize W / 1048576 % 32 = b at *
  have nn : (-4096 : Int) ≤ n ∧ n < 4096 ∧ n % 2 = 0 := by clear hrec e1 hit; omega
  have p0 : ((pc n 11 1 : Nat) : Int) = n / 2048 % 2 := pc_int n 11 1
  have z0 : pc n 11 1 = y0 := by clear hrec e1 hit nn; omega
  clear p0
  have p1 : ((pc n 1 4 : Nat) : Int) = n / 2 % 16 := pc_int n 1 4
  have z1 : pc n 1 4 = y1 := by clear hrec e1 hit nn; omega
  clear p1
  have p2 : ((pc n 5 6 : Nat) : Int) = n / 32 % 64 := pc_int n 5 6
  have z2 : pc n 5 6 = y2 := by clear hrec e1 hit nn; omega
  clear p2
  have p3 : ((pc n 12 1 : Nat) : Int) = n / 4096 % 2 := pc_int n 12 1
  have z3 : pc n 12 1 = y3 := by clear hrec e1 hit nn; omega
  clear p3
  refine ⟨?_, ?_⟩
  · show rightB (regV W 128 sh4.rd) (regV W 32768 sh4.ra) (regV W 1048576 sh4.rb) (gatherV W 4096 sh4) sh4 = true
    rw [Rd, Ra, Rb, hn]
    simp only [rightB, Bool.and_eq_true]
    exact ⟨⟨⟨rfl, fit_t_mk _ (by omega) (by omega)⟩, fit_t_mk _ (by omega) (by omega)⟩, (nf_iff n sh4 1 (by omega) rfl).2 nn⟩
  · show encV (l : Int) (m : Int) ((0 : Nat) : Int) (regV W 128 sh4.rd) (regV W 32768 sh4.ra) (regV W 1048576 sh4.rb) (gatherV W 4096 sh4) sh4 = (W : Int)
    rw [Rd, Ra, Rb, hn]
    obtain ⟨e2, w2⟩ := rg_ab a b va vb
    obtain ⟨e3, w3⟩ := sp4 n
    rw [enc3 e1 e2 e3 w1 w2 w3 (by decide) (by decide) (by decide) (by decide) (by decide)]
    rw [z0, z1, z2, z3]
    clear hcase nn hit w1 w2 w3 e1 e2 e3 z0 z1 z2 z3
    omega

theorem decK5 (l : Nat) (hl : l < 128) (W : Nat) (hlt : W < 4294967296) (hit : bits .and .u32 (W : Int) sh5.fx = obV (l : Int) ((0 : Nat) : Int) ((0 : Nat) : Int)) : DecIs 5 l 0 0 W := by
  obtain ⟨e1, w1⟩ := ob1 l hl
  replace e1 : obV (l : Int) ((0 : Nat) : Int) ((0 : Nat) : Int) = ((l : Nat) : Int) := e1
  replace hit : bits .and .u32 (W : Int) ((127 : Nat) : Int) = _ := hit
  rw [andN W _ hlt (by omega), e1, a_low] at hit
  have xl : W % 128 = l := by clear e1; omega
  have vd : W / 128 % 32 < 32 := Nat.mod_lt _ (by omega)
  have Rd : regV W 128 sh5.rd = ((W / 128 % 32 : Nat) : Int) := regV_t W 128 hlt
  have Ra : regV W 32768 sh5.ra = 0 := rfl
  have Rb : regV W 1048576 sh5.rb = 0 := rfl
  have s0 : W / 4096 % 1048576 < 1048576 := Nat.mod_lt _ (by omega)
  obtain ⟨n, hn, hcase⟩ : ∃ n, gatherV W 2147483648 sh5 = n ∧ (((((W / 4096 % 1048576) * 4096 : Nat) : Int) < 2147483648 ∧ n = (((W / 4096 % 1048576) * 4096 : Nat) : Int)) ∨ (2147483648 ≤ (((W / 4096 % 1048576) * 4096 : Nat) : Int) ∧ n = (((W / 4096 % 1048576) * 4096 : Nat) : Int) - 4294967296)) := by
    refine ⟨_, rfl, ?_⟩
    show (_ ∧ sgV true (gatTo (W : Int) sh5.ms 4) 2147483648 4294967296 = _) ∨ (_ ∧ sgV true (gatTo (W : Int) sh5.ms 4) 2147483648 4294967296 = _)
    rw [gt5]
    exact sg_two _ _ _ (by omega) (by omega) (by clear hit e1; omega)
  have hrec := rec5 W hlt
  rw [show W / 1 = W by omega, xl] at hrec
  generalize W / 4096 % 1048576 = y0 at *
  generalize W / 128 % 32 = d at *
  have nn : (-2147483648 : Int) ≤ n ∧ n < 2147483648 ∧ n % 4096 = 0 := by clear hrec e1 hit; omega
  have p0 : ((pc n 12 20 : Nat) : Int) = n / 4096 % 1048576 := pc_int n 12 20
  have z0 : pc n 12 20 = y0 := by clear hrec e1 hit nn; omega
  clear p0
  refine ⟨?_, ?_⟩
  · show rightB (regV W 128 sh5.rd) (regV W 32768 sh5.ra) (regV W 1048576 sh5.rb) (gatherV W 2147483648 sh5) sh5 = true
    rw [Rd, Ra, Rb, hn]
    simp only [rightB, Bool.and_eq_true]
    exact ⟨⟨⟨fit_t_mk _ (by omega) (by omega), rfl⟩, rfl⟩, (nf_iff n sh5 12 (by omega) rfl).2 nn⟩
  · show encV (l : Int) ((0 : Nat) : Int) ((0 : Nat) : Int) (regV W 128 sh5.rd) (regV W 32768 sh5.ra) (regV W 1048576 sh5.rb) (gatherV W 2147483648 sh5) sh5 = (W : Int)
    rw [Rd, Ra, Rb, hn]
    obtain ⟨e2, w2⟩ := rg_d d vd
    obtain ⟨e3, w3⟩ := sp5 n
    rw [enc3 e1 e2 e3 w1 w2 w3 (by decide) (by decide) (by decide) (by decide) (by decide)]
    rw [z0]
    clear hcase nn hit w1 w2 w3 e1 e2 e3 z0
    omega

theorem decK6 (l : Nat) (hl : l < 128) (W : Nat) (hlt : W < 4294967296) (hit : bits .and .u32 (W : Int) sh6.fx = obV (l : Int) ((0 : Nat) : Int) ((0 : Nat) : Int)) : DecIs 6 l 0 0 W := by
  obtain ⟨e1, w1⟩ := ob1 l hl
  replace e1 : obV (l : Int) ((0 : Nat) : Int) ((0 : Nat) : Int) = ((l : Nat) : Int) := e1
  replace hit : bits .and .u32 (W : Int) ((127 : Nat) : Int) = _ := hit
  rw [andN W _ hlt (by omega), e1, a_low] at hit
  have xl : W % 128 = l := by clear e1; omega
  have vd : W / 128 % 32 < 32 := Nat.mod_lt _ (by omega)
  have Rd : regV W 128 sh6.rd = ((W / 128 % 32 : Nat) : Int) := regV_t W 128 hlt
  have Ra : regV W 32768 sh6.ra = 0 := rfl
  have Rb : regV W 1048576 sh6.rb = 0 := rfl
  have s0 : W / 4096 % 256 < 256 := Nat.mod_lt _ (by omega)
  have s1 : W / 1048576 % 2 < 2 := Nat.mod_lt _ (by omega)
  have s2 : W / 2097152 % 1024 < 1024 := Nat.mod_lt _ (by omega)
  have s3 : W / 2147483648 % 2 < 2 := Nat.mod_lt _ (by omega)
  obtain ⟨n, hn, hcase⟩ : ∃ n, gatherV W 1048576 sh6 = n ∧ (((((W / 4096 % 256) * 4096 + (W / 1048576 % 2) * 2048 + (W / 2097152 % 1024) * 2 + (W / 2147483648 % 2) * 1048576 : Nat) : Int) < 1048576 ∧ n = (((W / 4096 % 256) * 4096 + (W / 1048576 % 2) * 2048 + (W / 2097152 % 1024) * 2 + (W / 2147483648 % 2) * 1048576 : Nat) : Int)) ∨ (1048576 ≤ (((W / 4096 % 256) * 4096 + (W / 1048576 % 2) * 2048 + (W / 2097152 % 1024) * 2 + (W / 2147483648 % 2) * 1048576 : Nat) : Int) ∧ n = (((W / 4096 % 256) * 4096 + (W / 1048576 % 2) * 2048 + (W / 2097152 % 1024) * 2 + (W / 2147483648 % 2) * 1048576 : Nat) : Int) - 2097152)) := by
    refine ⟨_, rfl, ?_⟩
    show (_ ∧ sgV true (gatTo (W : Int) sh6.ms 4) 1048576 2097152 = _) ∨ (_ ∧ sgV true (gatTo (W : Int) sh6.ms 4) 1048576 2097152 = _)
    rw [gt6]
    exact sg_two _ _ _ (by omega) (by omega) (by clear hit e1; omega)
  have hrec := rec6 W hlt
  rw [show W / 1 = W by omega, xl] at hrec
  generalize W / 4096 % 256 = y0 at *
  generalize W / 1048576 % 2 = y1 at *
  generalize W / 2097152 % 1024 = y2 at *
  generalize W / 2147483648 % 2 = y3 at *
  generalize W / 128 % 32 = d at *
  have nn : (-1048576 : Int) ≤ n ∧ n < 1048576 ∧ n % 2 = 0 := by clear hrec e1 hit; omega
  have p0 : ((pc n 12 8 : Nat) : Int) = n / 4096 % 256 := pc_int n 12 8
  have z0 : pc n 12 8 = y0 := by clear hrec e1 hit nn; omega
  clear p0
  have p1 : ((pc n 11 1 : Nat) : Int) = n / 2048 % 2 := pc_int n 11 1
  have z1 : pc n 11 1 = y1 := by clear hrec e1 hit nn; omega
  clear p1
  have p2 : ((pc n 1 10 : Nat) : Int) = n / 2 % 1024 := pc_int n 1 10
  have z2 : pc n 1 10 = y2 := by clear hrec e1 hit nn; omega
  clear p2
  have p3 : ((pc n 20 1 : Nat) : Int) = n / 1048576 % 2 := pc_int n 20 1
  have z3 : pc n 20 1 = y3 := by clear hrec e1 hit nn; omega
  clear p3
  refine ⟨?_, ?_⟩
  · show rightB (regV W 128 sh6.rd) (regV W 32768 sh6.ra) (regV W 1048576 sh6.rb) (gatherV W 1048576 sh6) sh6 = true
    rw [Rd, Ra, Rb, hn]
    simp only [rightB, Bool.and_eq_true]
    exact ⟨⟨⟨fit_t_mk _ (by omega) (by omega), rfl⟩, rfl⟩, (nf_iff n sh6 1 (by omega) rfl).2 nn⟩
  · show encV (l : Int) ((0 : Nat) : Int) ((0 : Nat) : Int) (regV W 128 sh6.rd) (regV W 32768 sh6.ra) (regV W 1048576 sh6.rb) (gatherV W 1048576 sh6) sh6 = (W : Int)
    rw [Rd, Ra, Rb, hn]
    obtain ⟨e2, w2⟩ := rg_d d vd
    obtain ⟨e3, w3⟩ := sp6 n
    rw [enc3 e1 e2 e3 w1 w2 w3 (by decide) (by decide) (by decide) (by decide) (by decide)]
    rw [z0, z1, z2, z3]
    clear hcase nn hit w1 w2 w3 e1 e2 e3 z0 z1 z2 z3
    omega

theorem decK7 (l : Nat) (hl : l < 128) (W : Nat) (hlt : W < 4294967296) (hit : bits .and .u32 (W : Int) sh7.fx = obV (l : Int) ((0 : Nat) : Int) ((0 : Nat) : Int)) : DecIs 7 l 0 0 W := by
  obtain ⟨e1, w1⟩ := ob1 l hl
  replace e1 : obV (l : Int) ((0 : Nat) : Int) ((0 : Nat) : Int) = ((l : Nat) : Int) := e1
  replace hit : bits .and .u32 (W : Int) ((4294967295 : Nat) : Int) = _ := hit
  rw [andN W _ hlt (by omega), e1, a_E W hlt] at hit
  have xl : W = l := by omega
  have Rd : regV W 128 sh7.rd = 0 := rfl
  have Ra : regV W 32768 sh7.ra = 0 := rfl
  have Rb : regV W 1048576 sh7.rb = 0 := rfl
  obtain ⟨n, hn, hcase⟩ : ∃ n, gatherV W 1 sh7 = n ∧ n = ((0 : Nat) : Int) := by
    refine ⟨_, rfl, ?_⟩
    show sgV false (gatTo (W : Int) sh7.ms 4) _ _ = _
    rw [gt7]
    rfl
  have nn : (0 : Int) ≤ n ∧ n < 1 ∧ n % 1 = 0 := by clear e1 hit; omega
  refine ⟨?_, ?_⟩
  · show rightB (regV W 128 sh7.rd) (regV W 32768 sh7.ra) (regV W 1048576 sh7.rb) (gatherV W 1 sh7) sh7 = true
    rw [Rd, Ra, Rb, hn]
    simp only [rightB, Bool.and_eq_true]
    exact ⟨⟨⟨rfl, rfl⟩, rfl⟩, (nf_iff n sh7 0 (by omega) rfl).2 nn⟩
  · show encV (l : Int) ((0 : Nat) : Int) ((0 : Nat) : Int) (regV W 128 sh7.rd) (regV W 32768 sh7.ra) (regV W 1048576 sh7.rb) (gatherV W 1 sh7) sh7 = (W : Int)
    rw [Rd, Ra, Rb, hn]
    have e2 : regsV 0 0 0 = ((0 : Nat) : Int) := by decide
    have w2 : Within 0 0 := rfl
    obtain ⟨e3, w3⟩ := sp7 n
    rw [enc3 e1 e2 e3 w1 w2 w3 (by decide) (by decide) (by decide) (by decide) (by decide)]
    clear hcase nn hit w1 w2 w3 e1 e2 e3
    omega
end Go.Proofs.YtchankbdfkgdiaaDoor
