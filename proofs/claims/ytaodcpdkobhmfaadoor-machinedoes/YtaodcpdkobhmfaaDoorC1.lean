/- Package word's three functions, over the program's own tables: what each call returns. -/
import Derived.Test.YtaodcpdkobhmfaaDoorK0
namespace Go.Proofs.YtaodcpdkobhmfaaDoor
open Go Go.RowKit

/-- An instruction may be. -/
def Rt (o d a b n : Int) : Bool := decide (1 ≤ o) && decide (o ≤ 31) && rightB d a b n (T.sh (T.kd o.toNat))
/-- Its word. -/
def Wd (o d a b n : Int) : Int := encV (T.lo o.toNat) (T.md o.toNat) (T.hg o.toNat) d a b n (T.sh (T.kd o.toNat))

theorem Rt_split {o d a b n : Int} (h : Rt o d a b n = true) : 1 ≤ o ∧ o ≤ 31 ∧ rightB d a b n (T.sh (T.kd o.toNat)) = true := by
  simp only [Rt, Bool.and_eq_true, decide_eq_true_eq] at h
  exact ⟨h.1.1, h.1.2, h.2⟩

theorem fit_any (r : Int) (has : Bool) (h : fitB r has = true) : 0 ≤ r ∧ r < 32 := by
  cases has
  · have := fit_f r h; omega
  · exact fit_t r h

theorem right_T (o d a b n : Int) (w : World) (ht : Tabs T w) :
    Calls Tryd.prog 57 #[instV o d a b n] w fun e w' => e = .returned (.bool (Rt o d a b n)) ∧ Below w.heap.size w w' := by
  by_cases h1 : 1 ≤ o
  · by_cases h2 : o ≤ 31
    · obtain ⟨k, rfl⟩ := Int.eq_ofNat_of_zero_le (show 0 ≤ o by omega)
      have e : Rt (k : Int) d a b n = rightB d a b n (T.sh (T.kd k)) := by simp [Rt, h1, h2]
      rw [e]
      exact right_yes k (T.kd k) _ _ _ d a b n _ _ w (by omega) (by omega) (T_ok.k8 k (by omega) (by omega)) (ht k (by omega) (by omega)) (T_ok.is _ (T_ok.k8 k (by omega) (by omega))) (T_ok.ok _ (T_ok.k8 k (by omega) (by omega)))
    · have e : Rt o d a b n = false := by simp [Rt, h2]
      rw [e]
      exact right_no o d a b n w (.inr (by omega))
  · have e : Rt o d a b n = false := by simp [Rt, h1]
    rw [e]
    exact right_no o d a b n w (.inl (by omega))

theorem encode_err (o d a b n : Int) (w : World) (ht : Tabs T w) (hr : Rt o d a b n = false) :
    Calls Tryd.prog 40 #[instV o d a b n] w fun e w' => e = .returned (.tuple #[.int .u32 0, errV 1]) ∧ Below w.heap.size w w' := by
  by_cases h1 : 1 ≤ o
  · by_cases h2 : o ≤ 31
    · obtain ⟨k, rfl⟩ := Int.eq_ofNat_of_zero_le (show 0 ≤ o by omega)
      have e : Rt (k : Int) d a b n = rightB d a b n (T.sh (T.kd k)) := by simp [Rt, h1, h2]
      rw [e] at hr
      exact encode_no k (T.kd k) _ _ _ d a b n _ _ w (by omega) (by omega) (T_ok.k8 k (by omega) (by omega)) (ht k (by omega) (by omega)) (T_ok.is _ (T_ok.k8 k (by omega) (by omega))) (T_ok.ok _ (T_ok.k8 k (by omega) (by omega))) hr
    · exact encode_out o d a b n w (.inr (by omega))
  · exact encode_out o d a b n w (.inl (by omega))

theorem encode_ok (o d a b n : Int) (w : World) (ht : Tabs T w) (hr : Rt o d a b n = true) :
    Calls Tryd.prog 40 #[instV o d a b n] w fun e w' => e = .returned (.tuple #[.int .u32 (Wd o d a b n), .nilIface]) ∧ Below w.heap.size w w' := by
  obtain ⟨h1, h2, h3⟩ := Rt_split hr
  obtain ⟨k, rfl⟩ := Int.eq_ofNat_of_zero_le (show 0 ≤ o by omega)
  rw [Int.toNat_natCast] at h3
  have h4 := h3
  simp only [rightB, Bool.and_eq_true] at h4
  obtain ⟨d0, d1⟩ := fit_any d _ h4.1.1.1
  obtain ⟨a0, a1⟩ := fit_any a _ h4.1.1.2
  obtain ⟨b0, b1⟩ := fit_any b _ h4.1.2
  unfold Wd
  rw [Int.toNat_natCast]
  exact encode_yes k (T.kd k) _ _ _ d a b n _ _ w (by omega) (by omega) (T_ok.k8 k (by omega) (by omega)) (ht k (by omega) (by omega)) (T_ok.is _ (T_ok.k8 k (by omega) (by omega))) (T_ok.ok _ (T_ok.k8 k (by omega) (by omega))) h3
    (T_ok.l0 k).1 (T_ok.l0 k).2 (T_ok.m0 k).1 (T_ok.m0 k).2 (T_ok.h0 k).1 (T_ok.h0 k).2 d0 d1 a0 a1 b0 b1

/-- No word is of an op's form. -/
def NoOp (x : Int) : Prop := ∀ j, 1 ≤ j → j < 32 → hitB T x j = false

theorem decode_none (x : Int) (w : World) (hx0 : 0 ≤ x) (hx1 : x < 4294967296) (ht : Tabs T w) (hn : NoOp x) :
    Calls Tryd.prog 42 #[.int .u32 x] w fun e w' => e = .returned (.tuple #[instV 0 0 0 0 0, errV 3]) ∧ Below w.heap.size w w' :=
  decode_core T T_ok x _ w hx0 hx1 ht (fun o h1 h2 _ h => by rw [hn o h1 (by omega)] at h; cases h) (fun _ => rfl)

/-- What is read of a word is written just so. -/
theorem decode_some (x : Int) (hx0 : 0 ≤ x) (hx1 : x < 4294967296) (hn : ¬ NoOp x) :
    ∃ o d a b n : Int, Rt o d a b n = true ∧ Wd o d a b n = x ∧ ∀ w, Tabs T w → Calls Tryd.prog 42 #[.int .u32 x] w fun e w' => e = .returned (.tuple #[instV o d a b n, .nilIface]) ∧ Below w.heap.size w w' := by
  obtain ⟨W, rfl⟩ := Int.eq_ofNat_of_zero_le hx0
  have hlt : W < 4294967296 := by omega
  obtain ⟨j, hj1, hj2, hj⟩ : ∃ j, 1 ≤ j ∧ j < 32 ∧ hitB T W j = true := by
    apply Classical.byContradiction
    intro h
    apply hn
    intro j h1 h2
    cases hb : hitB T W j with
    | false => rfl
    | true => exact absurd ⟨j, h1, h2, hb⟩ h
  have hit := (hitB_iff W j).1 hj
  obtain ⟨r1, r2⟩ := dec_all j hj1 (by omega) W hlt hit
  refine ⟨(j : Int), regV W 128 (T.sh (T.kd j)).rd, regV W 32768 (T.sh (T.kd j)).ra, regV W 1048576 (T.sh (T.kd j)).rb, gatherV W (T.ph (T.kd j)) (T.sh (T.kd j)), ?_, ?_, fun w ht => decode_core T T_ok W _ w hx0 hx1 ht (fun o h1 h2 _ h => ?_) (fun h => ?_)⟩
  · unfold Rt
    rw [Int.toNat_natCast, r1]
    simp
    omega
  · unfold Wd
    rw [Int.toNat_natCast]
    exact r2
  · have := hit_one o j h1 h2 hj1 (by omega) W hlt ((hitB_iff W o).1 h) hit
    subst this
    rfl
  · rw [h j hj1 hj2] at hj
    cases hj

/-- What an instruction is written as is that instruction. -/
theorem decode_back (o d a b n : Int) (w : World) (ht : Tabs T w) (hr : Rt o d a b n = true) :
    Calls Tryd.prog 42 #[.int .u32 (Wd o d a b n)] w fun e w' => e = .returned (.tuple #[instV o d a b n, .nilIface]) ∧ Below w.heap.size w w' := by
  obtain ⟨h1, h2, h3⟩ := Rt_split hr
  obtain ⟨k, rfl⟩ := Int.eq_ofNat_of_zero_le (show 0 ≤ o by omega)
  rw [Int.toNat_natCast] at h3
  obtain ⟨W, hlt, e1, hit, e2, e3, e4, e5⟩ := enc_all k (by omega) (by omega) d a b n h3
  unfold Wd
  rw [Int.toNat_natCast, e1]
  refine decode_core T T_ok W _ w (by omega) (by omega) ht (fun o h1 h2 _ h => ?_) (fun h => ?_)
  · have := hit_one o k h1 h2 (by omega) (by omega) W hlt ((hitB_iff W o).1 h) hit
    subst this
    unfold hitV
    rw [e2, e3, e4, e5]
  · have := h k (by omega) (by omega)
    rw [(hitB_iff W k).2 hit] at this
    cases this

theorem Wd_range (o d a b n : Int) (hr : Rt o d a b n = true) : 0 ≤ Wd o d a b n ∧ Wd o d a b n < 4294967296 := by
  obtain ⟨h1, h2, h3⟩ := Rt_split hr
  obtain ⟨k, rfl⟩ := Int.eq_ofNat_of_zero_le (show 0 ≤ o by omega)
  rw [Int.toNat_natCast] at h3
  obtain ⟨W, hlt, e1, _⟩ := enc_all k (by omega) (by omega) d a b n h3
  unfold Wd
  rw [Int.toNat_natCast, e1]
  omega

/-- Two are never one word. -/
theorem Wd_inj {o d a b n o' d' a' b' n' : Int} (hr : Rt o d a b n = true) (hr' : Rt o' d' a' b' n' = true) (h : Wd o d a b n = Wd o' d' a' b' n') : o = o' ∧ d = d' ∧ a = a' ∧ b = b' ∧ n = n' := by
  obtain ⟨h1, h2, h3⟩ := Rt_split hr
  obtain ⟨g1, g2, g3⟩ := Rt_split hr'
  obtain ⟨k, rfl⟩ := Int.eq_ofNat_of_zero_le (show 0 ≤ o by omega)
  obtain ⟨k', rfl⟩ := Int.eq_ofNat_of_zero_le (show 0 ≤ o' by omega)
  rw [Int.toNat_natCast] at h3 g3
  obtain ⟨W, hlt, e1, hit, e2, e3, e4, e5⟩ := enc_all k (by omega) (by omega) d a b n h3
  obtain ⟨W', hlt', f1, hit', f2, f3, f4, f5⟩ := enc_all k' (by omega) (by omega) d' a' b' n' g3
  unfold Wd at h
  rw [Int.toNat_natCast, Int.toNat_natCast, e1, f1] at h
  obtain rfl : W = W' := by omega
  obtain rfl := hit_one k k' (by omega) (by omega) (by omega) (by omega) W hlt hit hit'
  exact ⟨rfl, e2.symm.trans f2, e3.symm.trans f3, e4.symm.trans f4, e5.symm.trans f5⟩
end Go.Proofs.YtaodcpdkobhmfaaDoor
