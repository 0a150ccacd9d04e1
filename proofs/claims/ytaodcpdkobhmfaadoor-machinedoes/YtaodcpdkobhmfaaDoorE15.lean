/- What the document's Decode finds in a right instruction's word is that instruction, kind by kind. -/
import Derived.Test.YtaodcpdkobhmfaaDoorMO
namespace Go.Proofs.YtaodcpdkobhmfaaDoor
open Go Go.RowKit
/-- The registers that letters ask for, out of a word. -/
def rgS (W : Int) (z : Int × Int × Int) (c : Nat) : Int × Int × Int :=
  if c = 100 then (W / 128 % 32, z.2.1, z.2.2) else if c = 97 then (z.1, W / 32768 % 32, z.2.2) else (z.1, z.2.1, W / 1048576 % 32)
def rgV (W : Int) (l : List UInt8) : Int × Int × Int := l.foldl (fun z c => rgS W z c.toNat) (0, 0, 0)
theorem rgV_step (W : Int) (s : ByteArray) (p : Nat) (h : p < s.size) : rgV W (s.data.toList.take (p + 1)) = rgS W (rgV W (s.data.toList.take p)) (s[p]'h).toNat := by
  have h' : p < s.data.toList.length := by simpa using h
  rw [List.take_succ_eq_append_getElem h', rgV, List.foldl_append]
  rfl
/-- The number that pieces ask for, out of a word. -/
def nsum (W : Int) (F C T : Nat → Nat) : Nat → Int
  | 0 => 0
  | j + 1 => wrap64 (nsum W F C T j + W / (2 : Int) ^ T j % (2 : Int) ^ C j * (2 : Int) ^ F j)
def sgD (bt n : Int) : Int := if decide (0 < bt) && decide ((2 : Int) ^ (bt - 1).toNat ≤ n) then wrap64 (n - (2 : Int) ^ bt.toNat) else n


theorem digit (W lo y hi A C : Int) (hA : 0 < A) (h0 : 0 ≤ lo) (h1 : lo < A) (y0 : 0 ≤ y) (y1 : y < C) (e : W = lo + A * (y + C * hi)) : W / A % C = y := by
  rw [e, Int.add_mul_ediv_left _ _ (by omega), Int.ediv_eq_zero_of_lt h0 h1, Int.zero_add, Int.add_mul_emod_self_left, Int.emod_eq_of_lt y0 y1]
set_option maxHeartbeats 1000000 in
theorem cand_0 (d a b n W : Int) (l m h : Nat) (hl : l < 128) (hm : m < 8) (hh : h < 128) (hr : rightB d a b n sh0 = true) (hW : encV (l : Int) (m : Int) (h : Int) d a b n sh0 = W) :
    W % 128 = (l : Int) ∧ rgV W [100, 97, 98] = (d, a, b) ∧ (0 : Int) = n := by
  have hr0 := hr
  simp only [rightB, Bool.and_eq_true] at hr
  obtain ⟨⟨⟨h1, h2⟩, h3⟩, h4⟩ := hr
  obtain ⟨d0, d1⟩ := fit_t d h1
  obtain ⟨a0, a1⟩ := fit_t a h2
  obtain ⟨b0, b1⟩ := fit_t b h3
  rw [← nf_0] at h4
  simp only [beq_iff_eq] at h4
  rw [wd_0 l m h hl hm hh d a b n hr0] at hW
  have hE : W = (((((((((((l : Int) + (m : Int) * 4096) % 4294967296) + d * 128) % 4294967296) + a * 32768) % 4294967296) + b * 1048576) % 4294967296) + (h : Int) * 33554432) % 4294967296) := hW.symm
  clear hW hr0 h1 h2 h3
  have hL : W = (l : Int) * 1 + (m : Int) * 4096 + d * 128 + a * 32768 + b * 1048576 + (h : Int) * 33554432 := by
    rw [hE]
    simp only [Int.emod_add_emod]
    omega
  clear hE
  refine ⟨by omega, ?_, ?_⟩
  · clear h4
    show ((W / 128 % 32, W / 32768 % 32, W / 1048576 % 32) : Int × Int × Int) = _
    rw [Prod.mk.injEq, Prod.mk.injEq]
    exact ⟨(digit W ((l : Int) * 1) d ((m : Int) * 1 + a * 8 + b * 256 + (h : Int) * 8192) 128 32 (by omega) (by omega) (by omega) (by omega) (by omega) (by omega)), (digit W ((l : Int) * 1 + (m : Int) * 4096 + d * 128) a (b * 1 + (h : Int) * 32) 32768 32 (by omega) (by omega) (by omega) (by omega) (by omega) (by omega)), (digit W ((l : Int) * 1 + (m : Int) * 4096 + d * 128 + a * 32768) b ((h : Int) * 1) 1048576 32 (by omega) (by omega) (by omega) (by omega) (by omega) (by omega))⟩
  · exact h4.symm
set_option maxHeartbeats 1000000 in
theorem cand_1 (d a b n W : Int) (l m : Nat) (hl : l < 128) (hm : m < 8) (hr : rightB d a b n sh1 = true) (hW : encV (l : Int) (m : Int) ((0 : Nat) : Int) d a b n sh1 = W) :
    W % 128 = (l : Int) ∧ rgV W [100, 97] = (d, a, b) ∧ sgD 12 (nsum W (fun j => ([0] : List Nat).getD j 0) (fun j => ([12] : List Nat).getD j 0) (fun j => ([20] : List Nat).getD j 0) 1) = n := by
  have hr0 := hr
  simp only [rightB, Bool.and_eq_true] at hr
  obtain ⟨⟨⟨h1, h2⟩, h3⟩, h4⟩ := hr
  obtain ⟨d0, d1⟩ := fit_t d h1
  obtain ⟨a0, a1⟩ := fit_t a h2
  obtain rfl := fit_f b h3
  rw [← nf_1] at h4
  simp only [Bool.and_eq_true, decide_eq_true_eq] at h4
  rw [wd_1 l m hl hm d a 0 n hr0] at hW
  have hn : n % 4096 = n / 1 % 4096 * 1 := by
    clear hW hr0 h1 h2 h3
    have hz : n = 1 * (n / 1) := by omega
    have hm : n % 4096 = n - 4096 * (n / 4096) := by omega
    have e0 : n / 4096 = n / 1 / 4096 := by omega
    generalize n / 1 = A0 at *
    generalize n / 4096 = A1 at *
    omega
  have hE : W = (((((((((((l : Int) + (m : Int) * 4096) % 4294967296) + d * 128) % 4294967296) + a * 32768) % 4294967296) + ((0 : Nat) : Int) * 33554432) % 4294967296) + n / 1 % 4096 * 1048576) % 4294967296) := hW.symm
  clear hW hr0 h1 h2 h3
  have y00 : 0 ≤ n / 1 % 4096 ∧ n / 1 % 4096 < 4096 := by omega
  generalize n / 1 % 4096 = y0 at *
  have hL : W = (l : Int) * 1 + (m : Int) * 4096 + d * 128 + a * 32768 + y0 * 1048576 := by
    rw [hE]
    simp only [Int.emod_add_emod]
    omega
  clear hE
  refine ⟨by omega, ?_, ?_⟩
  · clear hn h4
    show ((W / 128 % 32, W / 32768 % 32, 0) : Int × Int × Int) = _
    rw [Prod.mk.injEq, Prod.mk.injEq]
    exact ⟨(digit W ((l : Int) * 1) d ((m : Int) * 1 + a * 8 + y0 * 256) 128 32 (by omega) (by omega) (by omega) (by omega) (by omega) (by omega)), (digit W ((l : Int) * 1 + (m : Int) * 4096 + d * 128) a (y0 * 1) 32768 32 (by omega) (by omega) (by omega) (by omega) (by omega) (by omega)), rfl⟩
  · have p0 : W / 1048576 % 4096 = y0 := by
      clear hn h4
      exact (digit W ((l : Int) * 1 + (m : Int) * 4096 + d * 128 + a * 32768) y0 (0) 1048576 4096 (by omega) (by omega) (by omega) (by omega) (by omega) (by omega))
    have hs : nsum W (fun j => ([0] : List Nat).getD j 0) (fun j => ([12] : List Nat).getD j 0) (fun j => ([20] : List Nat).getD j 0) 1 = y0 * 1 := by
      show wrap64 (0 + W / 1048576 % 4096 * 1) = _
      rw [p0]
      clear hn h4 hL p0
      unfold wrap64
      omega
    rw [hs]
    clear hs hL p0
    show (if decide ((0 : Int) < 12) && decide ((2048 : Int) ≤ _) then wrap64 (_ - 4096) else _) = n
    have e1 : decide ((0 : Int) < 12) = true := by decide
    rw [e1, Bool.true_and]
    split
    · rename_i hge
      have hge := of_decide_eq_true hge
      unfold wrap64
      omega
    · rename_i hge
      have hge : ¬ _ := fun h => hge (decide_eq_true h)
      omega
set_option maxHeartbeats 1000000 in
theorem cand_2 (d a b n W : Int) (l m q : Nat) (hl : l < 128) (hm : m < 8) (hq : q < 64) (hr : rightB d a b n sh2 = true) (hW : encV (l : Int) (m : Int) ((2 * q : Nat) : Int) d a b n sh2 = W) :
    W % 128 = (l : Int) ∧ rgV W [100, 97] = (d, a, b) ∧ sgD 0 (nsum W (fun j => ([0] : List Nat).getD j 0) (fun j => ([6] : List Nat).getD j 0) (fun j => ([20] : List Nat).getD j 0) 1) = n := by
  have hr0 := hr
  simp only [rightB, Bool.and_eq_true] at hr
  obtain ⟨⟨⟨h1, h2⟩, h3⟩, h4⟩ := hr
  obtain ⟨d0, d1⟩ := fit_t d h1
  obtain ⟨a0, a1⟩ := fit_t a h2
  obtain rfl := fit_f b h3
  rw [← nf_2] at h4
  simp only [Bool.and_eq_true, decide_eq_true_eq] at h4
  rw [wd_2 l m q hl hm hq d a 0 n hr0] at hW
  have hn : n % 64 = n / 1 % 64 * 1 := by
    clear hW hr0 h1 h2 h3
    have hz : n = 1 * (n / 1) := by omega
    have hm : n % 64 = n - 64 * (n / 64) := by omega
    have e0 : n / 64 = n / 1 / 64 := by omega
    generalize n / 1 = A0 at *
    generalize n / 64 = A1 at *
    omega
  have hE : W = (((((((((((l : Int) + (m : Int) * 4096) % 4294967296) + d * 128) % 4294967296) + a * 32768) % 4294967296) + ((2 * q : Nat) : Int) * 33554432) % 4294967296) + n / 1 % 64 * 1048576) % 4294967296) := hW.symm
  clear hW hr0 h1 h2 h3
  have y00 : 0 ≤ n / 1 % 64 ∧ n / 1 % 64 < 64 := by omega
  generalize n / 1 % 64 = y0 at *
  have hL : W = (l : Int) * 1 + (m : Int) * 4096 + d * 128 + a * 32768 + (q : Int) * 67108864 + y0 * 1048576 := by
    rw [hE]
    simp only [Int.emod_add_emod]
    omega
  clear hE
  refine ⟨by omega, ?_, ?_⟩
  · clear hn h4
    show ((W / 128 % 32, W / 32768 % 32, 0) : Int × Int × Int) = _
    rw [Prod.mk.injEq, Prod.mk.injEq]
    exact ⟨(digit W ((l : Int) * 1) d ((m : Int) * 1 + a * 8 + (q : Int) * 16384 + y0 * 256) 128 32 (by omega) (by omega) (by omega) (by omega) (by omega) (by omega)), (digit W ((l : Int) * 1 + (m : Int) * 4096 + d * 128) a ((q : Int) * 64 + y0 * 1) 32768 32 (by omega) (by omega) (by omega) (by omega) (by omega) (by omega)), rfl⟩
  · have p0 : W / 1048576 % 64 = y0 := by
      clear hn h4
      exact (digit W ((l : Int) * 1 + (m : Int) * 4096 + d * 128 + a * 32768) y0 ((q : Int) * 1) 1048576 64 (by omega) (by omega) (by omega) (by omega) (by omega) (by omega))
    have hs : nsum W (fun j => ([0] : List Nat).getD j 0) (fun j => ([6] : List Nat).getD j 0) (fun j => ([20] : List Nat).getD j 0) 1 = y0 * 1 := by
      show wrap64 (0 + W / 1048576 % 64 * 1) = _
      rw [p0]
      clear hn h4 hL p0
      unfold wrap64
      omega
    rw [hs]
    clear hs hL p0
    show (if decide ((0 : Int) < 0) && _ then _ else _) = n
    have e1 : decide ((0 : Int) < 0) = false := by decide
    rw [e1, Bool.false_and]
    simp only [Bool.false_eq_true, if_false]
    omega
set_option maxHeartbeats 1000000 in
theorem cand_3 (d a b n W : Int) (l m : Nat) (hl : l < 128) (hm : m < 8) (hr : rightB d a b n sh3 = true) (hW : encV (l : Int) (m : Int) ((0 : Nat) : Int) d a b n sh3 = W) :
    W % 128 = (l : Int) ∧ rgV W [97, 98] = (d, a, b) ∧ sgD 12 (nsum W (fun j => ([0, 5] : List Nat).getD j 0) (fun j => ([5, 7] : List Nat).getD j 0) (fun j => ([7, 25] : List Nat).getD j 0) 2) = n := by
  have hr0 := hr
  simp only [rightB, Bool.and_eq_true] at hr
  obtain ⟨⟨⟨h1, h2⟩, h3⟩, h4⟩ := hr
  obtain rfl := fit_f d h1
  obtain ⟨a0, a1⟩ := fit_t a h2
  obtain ⟨b0, b1⟩ := fit_t b h3
  rw [← nf_3] at h4
  simp only [Bool.and_eq_true, decide_eq_true_eq] at h4
  rw [wd_3 l m hl hm 0 a b n hr0] at hW
  have hn : n % 4096 = n / 1 % 32 * 1 + n / 32 % 128 * 32 := by
    clear hW hr0 h1 h2 h3
    have hz : n = 1 * (n / 1) := by omega
    have hm : n % 4096 = n - 4096 * (n / 4096) := by omega
    have e0 : n / 32 = n / 1 / 32 := by omega
    have e1 : n / 4096 = n / 32 / 128 := by omega
    generalize n / 1 = A0 at *
    generalize n / 32 = A1 at *
    generalize n / 4096 = A2 at *
    omega
  have hE : W = (((((((((((((l : Int) + (m : Int) * 4096) % 4294967296) + a * 32768) % 4294967296) + b * 1048576) % 4294967296) + ((0 : Nat) : Int) * 33554432) % 4294967296) + n / 1 % 32 * 128) % 4294967296) + n / 32 % 128 * 33554432) % 4294967296) := hW.symm
  clear hW hr0 h1 h2 h3
  have y00 : 0 ≤ n / 1 % 32 ∧ n / 1 % 32 < 32 := by omega
  have y10 : 0 ≤ n / 32 % 128 ∧ n / 32 % 128 < 128 := by omega
  generalize n / 1 % 32 = y0 at *
  generalize n / 32 % 128 = y1 at *
  have hL : W = (l : Int) * 1 + (m : Int) * 4096 + a * 32768 + b * 1048576 + y0 * 128 + y1 * 33554432 := by
    rw [hE]
    simp only [Int.emod_add_emod]
    omega
  clear hE
  refine ⟨by omega, ?_, ?_⟩
  · clear hn h4
    show ((0, W / 32768 % 32, W / 1048576 % 32) : Int × Int × Int) = _
    rw [Prod.mk.injEq, Prod.mk.injEq]
    exact ⟨rfl, (digit W ((l : Int) * 1 + (m : Int) * 4096 + y0 * 128) a (b * 1 + y1 * 32) 32768 32 (by omega) (by omega) (by omega) (by omega) (by omega) (by omega)), (digit W ((l : Int) * 1 + (m : Int) * 4096 + a * 32768 + y0 * 128) b (y1 * 1) 1048576 32 (by omega) (by omega) (by omega) (by omega) (by omega) (by omega))⟩
  · have p0 : W / 128 % 32 = y0 := by
      clear hn h4
      exact (digit W ((l : Int) * 1) y0 ((m : Int) * 1 + a * 8 + b * 256 + y1 * 8192) 128 32 (by omega) (by omega) (by omega) (by omega) (by omega) (by omega))
    have p1 : W / 33554432 % 128 = y1 := by
      clear hn h4
      exact (digit W ((l : Int) * 1 + (m : Int) * 4096 + a * 32768 + b * 1048576 + y0 * 128) y1 (0) 33554432 128 (by omega) (by omega) (by omega) (by omega) (by omega) (by omega))
    have hs : nsum W (fun j => ([0, 5] : List Nat).getD j 0) (fun j => ([5, 7] : List Nat).getD j 0) (fun j => ([7, 25] : List Nat).getD j 0) 2 = y0 * 1 + y1 * 32 := by
      show wrap64 (wrap64 (0 + W / 128 % 32 * 1) + W / 33554432 % 128 * 32) = _
      rw [p0, p1]
      clear hn h4 hL p0 p1
      unfold wrap64
      omega
    rw [hs]
    clear hs hL p0 p1
    show (if decide ((0 : Int) < 12) && decide ((2048 : Int) ≤ _) then wrap64 (_ - 4096) else _) = n
    have e1 : decide ((0 : Int) < 12) = true := by decide
    rw [e1, Bool.true_and]
    split
    · rename_i hge
      have hge := of_decide_eq_true hge
      unfold wrap64
      omega
    · rename_i hge
      have hge : ¬ _ := fun h => hge (decide_eq_true h)
      omega
set_option maxHeartbeats 1000000 in
theorem cand_4 (d a b n W : Int) (l m : Nat) (hl : l < 128) (hm : m < 8) (hr : rightB d a b n sh4 = true) (hW : encV (l : Int) (m : Int) ((0 : Nat) : Int) d a b n sh4 = W) :
    W % 128 = (l : Int) ∧ rgV W [97, 98] = (d, a, b) ∧ sgD 13 (nsum W (fun j => ([11, 1, 5, 12] : List Nat).getD j 0) (fun j => ([1, 4, 6, 1] : List Nat).getD j 0) (fun j => ([7, 8, 25, 31] : List Nat).getD j 0) 4) = n := by
  have hr0 := hr
  simp only [rightB, Bool.and_eq_true] at hr
  obtain ⟨⟨⟨h1, h2⟩, h3⟩, h4⟩ := hr
  obtain rfl := fit_f d h1
  obtain ⟨a0, a1⟩ := fit_t a h2
  obtain ⟨b0, b1⟩ := fit_t b h3
  rw [← nf_4] at h4
  simp only [Bool.and_eq_true, decide_eq_true_eq, beq_iff_eq, tm_iff] at h4
  rw [wd_4 l m hl hm 0 a b n hr0] at hW
  have hn : n % 8192 = n / 2048 % 2 * 2048 + n / 2 % 16 * 2 + n / 32 % 64 * 32 + n / 4096 % 2 * 4096 := by
    clear hW hr0 h1 h2 h3
    have hz : n = 2 * (n / 2) := by omega
    have hm : n % 8192 = n - 8192 * (n / 8192) := by omega
    have e0 : n / 32 = n / 2 / 16 := by omega
    have e1 : n / 2048 = n / 32 / 64 := by omega
    have e2 : n / 4096 = n / 2048 / 2 := by omega
    have e3 : n / 8192 = n / 4096 / 2 := by omega
    generalize n / 2 = A0 at *
    generalize n / 32 = A1 at *
    generalize n / 2048 = A2 at *
    generalize n / 4096 = A3 at *
    generalize n / 8192 = A4 at *
    omega
  have hE : W = (((((((((((((((((l : Int) + (m : Int) * 4096) % 4294967296) + a * 32768) % 4294967296) + b * 1048576) % 4294967296) + ((0 : Nat) : Int) * 33554432) % 4294967296) + n / 2048 % 2 * 128) % 4294967296) + n / 2 % 16 * 256) % 4294967296) + n / 32 % 64 * 33554432) % 4294967296) + n / 4096 % 2 * 2147483648) % 4294967296) := hW.symm
  clear hW hr0 h1 h2 h3
  have y00 : 0 ≤ n / 2048 % 2 ∧ n / 2048 % 2 < 2 := by omega
  have y10 : 0 ≤ n / 2 % 16 ∧ n / 2 % 16 < 16 := by omega
  have y20 : 0 ≤ n / 32 % 64 ∧ n / 32 % 64 < 64 := by omega
  have y30 : 0 ≤ n / 4096 % 2 ∧ n / 4096 % 2 < 2 := by omega
  generalize n / 2048 % 2 = y0 at *
  generalize n / 2 % 16 = y1 at *
  generalize n / 32 % 64 = y2 at *
  generalize n / 4096 % 2 = y3 at *
  have hL : W = (l : Int) * 1 + (m : Int) * 4096 + a * 32768 + b * 1048576 + y0 * 128 + y1 * 256 + y2 * 33554432 + y3 * 2147483648 := by
    rw [hE]
    simp only [Int.emod_add_emod]
    omega
  clear hE
  refine ⟨by omega, ?_, ?_⟩
  · clear hn h4
    show ((0, W / 32768 % 32, W / 1048576 % 32) : Int × Int × Int) = _
    rw [Prod.mk.injEq, Prod.mk.injEq]
    exact ⟨rfl, (digit W ((l : Int) * 1 + (m : Int) * 4096 + y0 * 128 + y1 * 256) a (b * 1 + y2 * 32 + y3 * 2048) 32768 32 (by omega) (by omega) (by omega) (by omega) (by omega) (by omega)), (digit W ((l : Int) * 1 + (m : Int) * 4096 + a * 32768 + y0 * 128 + y1 * 256) b (y2 * 1 + y3 * 64) 1048576 32 (by omega) (by omega) (by omega) (by omega) (by omega) (by omega))⟩
  · have p0 : W / 128 % 2 = y0 := by
      clear hn h4
      exact (digit W ((l : Int) * 1) y0 ((m : Int) * 16 + a * 128 + b * 4096 + y1 * 1 + y2 * 131072 + y3 * 8388608) 128 2 (by omega) (by omega) (by omega) (by omega) (by omega) (by omega))
    have p1 : W / 256 % 16 = y1 := by
      clear hn h4
      exact (digit W ((l : Int) * 1 + y0 * 128) y1 ((m : Int) * 1 + a * 8 + b * 256 + y2 * 8192 + y3 * 524288) 256 16 (by omega) (by omega) (by omega) (by omega) (by omega) (by omega))
    have p2 : W / 33554432 % 64 = y2 := by
      clear hn h4
      exact (digit W ((l : Int) * 1 + (m : Int) * 4096 + a * 32768 + b * 1048576 + y0 * 128 + y1 * 256) y2 (y3 * 1) 33554432 64 (by omega) (by omega) (by omega) (by omega) (by omega) (by omega))
    have p3 : W / 2147483648 % 2 = y3 := by
      clear hn h4
      exact (digit W ((l : Int) * 1 + (m : Int) * 4096 + a * 32768 + b * 1048576 + y0 * 128 + y1 * 256 + y2 * 33554432) y3 (0) 2147483648 2 (by omega) (by omega) (by omega) (by omega) (by omega) (by omega))
    have hs : nsum W (fun j => ([11, 1, 5, 12] : List Nat).getD j 0) (fun j => ([1, 4, 6, 1] : List Nat).getD j 0) (fun j => ([7, 8, 25, 31] : List Nat).getD j 0) 4 = y0 * 2048 + y1 * 2 + y2 * 32 + y3 * 4096 := by
      show wrap64 (wrap64 (wrap64 (wrap64 (0 + W / 128 % 2 * 2048) + W / 256 % 16 * 2) + W / 33554432 % 64 * 32) + W / 2147483648 % 2 * 4096) = _
      rw [p0, p1, p2, p3]
      clear hn h4 hL p0 p1 p2 p3
      unfold wrap64
      omega
    rw [hs]
    clear hs hL p0 p1 p2 p3
    show (if decide ((0 : Int) < 13) && decide ((4096 : Int) ≤ _) then wrap64 (_ - 8192) else _) = n
    have e1 : decide ((0 : Int) < 13) = true := by decide
    rw [e1, Bool.true_and]
    split
    · rename_i hge
      have hge := of_decide_eq_true hge
      unfold wrap64
      omega
    · rename_i hge
      have hge : ¬ _ := fun h => hge (decide_eq_true h)
      omega
set_option maxHeartbeats 1000000 in
theorem cand_5 (d a b n W : Int) (l : Nat) (hl : l < 128) (hr : rightB d a b n sh5 = true) (hW : encV (l : Int) ((0 : Nat) : Int) ((0 : Nat) : Int) d a b n sh5 = W) :
    W % 128 = (l : Int) ∧ rgV W [100] = (d, a, b) ∧ sgD 32 (nsum W (fun j => ([12] : List Nat).getD j 0) (fun j => ([20] : List Nat).getD j 0) (fun j => ([12] : List Nat).getD j 0) 1) = n := by
  have hr0 := hr
  simp only [rightB, Bool.and_eq_true] at hr
  obtain ⟨⟨⟨h1, h2⟩, h3⟩, h4⟩ := hr
  obtain ⟨d0, d1⟩ := fit_t d h1
  obtain rfl := fit_f a h2
  obtain rfl := fit_f b h3
  rw [← nf_5] at h4
  simp only [Bool.and_eq_true, decide_eq_true_eq, beq_iff_eq, tm_iff] at h4
  rw [wd_5 l hl d 0 0 n hr0] at hW
  have hn : n % 4294967296 = n / 4096 % 1048576 * 4096 := by
    clear hW hr0 h1 h2 h3
    have hz : n = 4096 * (n / 4096) := by omega
    have hm : n % 4294967296 = n - 4294967296 * (n / 4294967296) := by omega
    have e0 : n / 4294967296 = n / 4096 / 1048576 := by omega
    generalize n / 4096 = A0 at *
    generalize n / 4294967296 = A1 at *
    omega
  have hE : W = (((((((l : Int) + d * 128) % 4294967296) + ((0 : Nat) : Int) * 33554432) % 4294967296) + n / 4096 % 1048576 * 4096) % 4294967296) := hW.symm
  clear hW hr0 h1 h2 h3
  have y00 : 0 ≤ n / 4096 % 1048576 ∧ n / 4096 % 1048576 < 1048576 := by omega
  generalize n / 4096 % 1048576 = y0 at *
  have hL : W = (l : Int) * 1 + d * 128 + y0 * 4096 := by
    rw [hE]
    simp only [Int.emod_add_emod]
    omega
  clear hE
  refine ⟨by omega, ?_, ?_⟩
  · clear hn h4
    show ((W / 128 % 32, 0, 0) : Int × Int × Int) = _
    rw [Prod.mk.injEq, Prod.mk.injEq]
    exact ⟨(digit W ((l : Int) * 1) d (y0 * 1) 128 32 (by omega) (by omega) (by omega) (by omega) (by omega) (by omega)), rfl, rfl⟩
  · have p0 : W / 4096 % 1048576 = y0 := by
      clear hn h4
      exact (digit W ((l : Int) * 1 + d * 128) y0 (0) 4096 1048576 (by omega) (by omega) (by omega) (by omega) (by omega) (by omega))
    have hs : nsum W (fun j => ([12] : List Nat).getD j 0) (fun j => ([20] : List Nat).getD j 0) (fun j => ([12] : List Nat).getD j 0) 1 = y0 * 4096 := by
      show wrap64 (0 + W / 4096 % 1048576 * 4096) = _
      rw [p0]
      clear hn h4 hL p0
      unfold wrap64
      omega
    rw [hs]
    clear hs hL p0
    show (if decide ((0 : Int) < 32) && decide ((2147483648 : Int) ≤ _) then wrap64 (_ - 4294967296) else _) = n
    have e1 : decide ((0 : Int) < 32) = true := by decide
    rw [e1, Bool.true_and]
    split
    · rename_i hge
      have hge := of_decide_eq_true hge
      unfold wrap64
      omega
    · rename_i hge
      have hge : ¬ _ := fun h => hge (decide_eq_true h)
      omega
set_option maxHeartbeats 1000000 in
theorem cand_6 (d a b n W : Int) (l : Nat) (hl : l < 128) (hr : rightB d a b n sh6 = true) (hW : encV (l : Int) ((0 : Nat) : Int) ((0 : Nat) : Int) d a b n sh6 = W) :
    W % 128 = (l : Int) ∧ rgV W [100] = (d, a, b) ∧ sgD 21 (nsum W (fun j => ([12, 11, 1, 20] : List Nat).getD j 0) (fun j => ([8, 1, 10, 1] : List Nat).getD j 0) (fun j => ([12, 20, 21, 31] : List Nat).getD j 0) 4) = n := by
  have hr0 := hr
  simp only [rightB, Bool.and_eq_true] at hr
  obtain ⟨⟨⟨h1, h2⟩, h3⟩, h4⟩ := hr
  obtain ⟨d0, d1⟩ := fit_t d h1
  obtain rfl := fit_f a h2
  obtain rfl := fit_f b h3
  rw [← nf_6] at h4
  simp only [Bool.and_eq_true, decide_eq_true_eq, beq_iff_eq, tm_iff] at h4
  rw [wd_6 l hl d 0 0 n hr0] at hW
  have hn : n % 2097152 = n / 4096 % 256 * 4096 + n / 2048 % 2 * 2048 + n / 2 % 1024 * 2 + n / 1048576 % 2 * 1048576 := by
    clear hW hr0 h1 h2 h3
    have hz : n = 2 * (n / 2) := by omega
    have hm : n % 2097152 = n - 2097152 * (n / 2097152) := by omega
    have e0 : n / 2048 = n / 2 / 1024 := by omega
    have e1 : n / 4096 = n / 2048 / 2 := by omega
    have e2 : n / 1048576 = n / 4096 / 256 := by omega
    have e3 : n / 2097152 = n / 1048576 / 2 := by omega
    generalize n / 2 = A0 at *
    generalize n / 2048 = A1 at *
    generalize n / 4096 = A2 at *
    generalize n / 1048576 = A3 at *
    generalize n / 2097152 = A4 at *
    omega
  have hE : W = (((((((((((((l : Int) + d * 128) % 4294967296) + ((0 : Nat) : Int) * 33554432) % 4294967296) + n / 4096 % 256 * 4096) % 4294967296) + n / 2048 % 2 * 1048576) % 4294967296) + n / 2 % 1024 * 2097152) % 4294967296) + n / 1048576 % 2 * 2147483648) % 4294967296) := hW.symm
  clear hW hr0 h1 h2 h3
  have y00 : 0 ≤ n / 4096 % 256 ∧ n / 4096 % 256 < 256 := by omega
  have y10 : 0 ≤ n / 2048 % 2 ∧ n / 2048 % 2 < 2 := by omega
  have y20 : 0 ≤ n / 2 % 1024 ∧ n / 2 % 1024 < 1024 := by omega
  have y30 : 0 ≤ n / 1048576 % 2 ∧ n / 1048576 % 2 < 2 := by omega
  generalize n / 4096 % 256 = y0 at *
  generalize n / 2048 % 2 = y1 at *
  generalize n / 2 % 1024 = y2 at *
  generalize n / 1048576 % 2 = y3 at *
  have hL : W = (l : Int) * 1 + d * 128 + y0 * 4096 + y1 * 1048576 + y2 * 2097152 + y3 * 2147483648 := by
    rw [hE]
    simp only [Int.emod_add_emod]
    omega
  clear hE
  refine ⟨by omega, ?_, ?_⟩
  · clear hn h4
    show ((W / 128 % 32, 0, 0) : Int × Int × Int) = _
    rw [Prod.mk.injEq, Prod.mk.injEq]
    exact ⟨(digit W ((l : Int) * 1) d (y0 * 1 + y1 * 256 + y2 * 512 + y3 * 524288) 128 32 (by omega) (by omega) (by omega) (by omega) (by omega) (by omega)), rfl, rfl⟩
  · have p0 : W / 4096 % 256 = y0 := by
      clear hn h4
      exact (digit W ((l : Int) * 1 + d * 128) y0 (y1 * 1 + y2 * 2 + y3 * 2048) 4096 256 (by omega) (by omega) (by omega) (by omega) (by omega) (by omega))
    have p1 : W / 1048576 % 2 = y1 := by
      clear hn h4
      exact (digit W ((l : Int) * 1 + d * 128 + y0 * 4096) y1 (y2 * 1 + y3 * 1024) 1048576 2 (by omega) (by omega) (by omega) (by omega) (by omega) (by omega))
    have p2 : W / 2097152 % 1024 = y2 := by
      clear hn h4
      exact (digit W ((l : Int) * 1 + d * 128 + y0 * 4096 + y1 * 1048576) y2 (y3 * 1) 2097152 1024 (by omega) (by omega) (by omega) (by omega) (by omega) (by omega))
    have p3 : W / 2147483648 % 2 = y3 := by
      clear hn h4
      exact (digit W ((l : Int) * 1 + d * 128 + y0 * 4096 + y1 * 1048576 + y2 * 2097152) y3 (0) 2147483648 2 (by omega) (by omega) (by omega) (by omega) (by omega) (by omega))
    have hs : nsum W (fun j => ([12, 11, 1, 20] : List Nat).getD j 0) (fun j => ([8, 1, 10, 1] : List Nat).getD j 0) (fun j => ([12, 20, 21, 31] : List Nat).getD j 0) 4 = y0 * 4096 + y1 * 2048 + y2 * 2 + y3 * 1048576 := by
      show wrap64 (wrap64 (wrap64 (wrap64 (0 + W / 4096 % 256 * 4096) + W / 1048576 % 2 * 2048) + W / 2097152 % 1024 * 2) + W / 2147483648 % 2 * 1048576) = _
      rw [p0, p1, p2, p3]
      clear hn h4 hL p0 p1 p2 p3
      unfold wrap64
      omega
    rw [hs]
    clear hs hL p0 p1 p2 p3
    show (if decide ((0 : Int) < 21) && decide ((1048576 : Int) ≤ _) then wrap64 (_ - 2097152) else _) = n
    have e1 : decide ((0 : Int) < 21) = true := by decide
    rw [e1, Bool.true_and]
    split
    · rename_i hge
      have hge := of_decide_eq_true hge
      unfold wrap64
      omega
    · rename_i hge
      have hge : ¬ _ := fun h => hge (decide_eq_true h)
      omega
set_option maxHeartbeats 1000000 in
theorem cand_7 (d a b n W : Int) (l : Nat) (hl : l < 128) (hr : rightB d a b n sh7 = true) (hW : encV (l : Int) ((0 : Nat) : Int) ((0 : Nat) : Int) d a b n sh7 = W) :
    W % 128 = (l : Int) ∧ rgV W [] = (d, a, b) ∧ (0 : Int) = n := by
  have hr0 := hr
  simp only [rightB, Bool.and_eq_true] at hr
  obtain ⟨⟨⟨h1, h2⟩, h3⟩, h4⟩ := hr
  obtain rfl := fit_f d h1
  obtain rfl := fit_f a h2
  obtain rfl := fit_f b h3
  rw [← nf_7] at h4
  simp only [beq_iff_eq] at h4
  rw [wd_7 l hl 0 0 0 n hr0] at hW
  have hE : W = (((l : Int) + ((0 : Nat) : Int) * 33554432) % 4294967296) := hW.symm
  clear hW hr0 h1 h2 h3
  have hL : W = (l : Int) * 1 := by
    rw [hE]
    try simp only [Int.emod_add_emod]
    omega
  clear hE
  refine ⟨by omega, ?_, ?_⟩
  · clear h4
    show ((0, 0, 0) : Int × Int × Int) = _
    rw [Prod.mk.injEq, Prod.mk.injEq]
    exact ⟨rfl, rfl, rfl⟩
  · exact h4.symm
end Go.Proofs.YtaodcpdkobhmfaaDoor
