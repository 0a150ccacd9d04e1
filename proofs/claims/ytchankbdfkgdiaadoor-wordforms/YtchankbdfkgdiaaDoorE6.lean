/- RightInst of the document's own answer: the same as Right's, at every instruction. -/
import Derived.Test.YtchankbdfkgdiaaDoorE5
namespace Go.Proofs.YtchankbdfkgdiaaDoor
open Go Go.RowKit

theorem fit_reg (t : Bool) (x : Int) : regOk t x = fitB x t := by
  rw [Bool.eq_iff_iff]
  cases t <;> simp [regOk, fitB] <;> omega
theorem tm_iff (n p : Int) : n.tmod p = 0 ↔ n % p = 0 :=
  ⟨fun h => Int.emod_eq_zero_of_dvd (Int.dvd_of_tmod_eq_zero h), fun h => Int.tmod_eq_zero_of_dvd (Int.dvd_of_emod_eq_zero h)⟩
theorem nf_0 (n : Int) : (n == 0) = nfB n sh0 := by
  rw [Bool.eq_iff_iff, nf_iff n sh0 0 (by omega) (by decide)]
  simp [Sh.lo, Sh.hi, sh0]
  omega
theorem nf_1 (n : Int) : (decide (-2048 ≤ n) && decide (n ≤ 2047)) = nfB n sh1 := by
  rw [Bool.eq_iff_iff, nf_iff n sh1 0 (by omega) (by decide)]
  simp [Sh.lo, Sh.hi, sh1]
  omega
theorem nf_2 (n : Int) : (decide (0 ≤ n) && decide (n ≤ 63)) = nfB n sh2 := by
  rw [Bool.eq_iff_iff, nf_iff n sh2 0 (by omega) (by decide)]
  simp [Sh.lo, Sh.hi, sh2]
  omega
theorem nf_3 (n : Int) : (decide (-2048 ≤ n) && decide (n ≤ 2047)) = nfB n sh3 := by
  rw [Bool.eq_iff_iff, nf_iff n sh3 0 (by omega) (by decide)]
  simp [Sh.lo, Sh.hi, sh3]
  omega
theorem nf_4 (n : Int) : (decide (-4096 ≤ n) && decide (n ≤ 4095) && (n.tmod 2 == 0)) = nfB n sh4 := by
  rw [Bool.eq_iff_iff, nf_iff n sh4 1 (by omega) (by decide)]
  simp [Sh.lo, Sh.hi, sh4, tm_iff]
  omega
theorem nf_5 (n : Int) : (decide (-2147483648 ≤ n) && decide (n ≤ 2147483647) && (n.tmod 4096 == 0)) = nfB n sh5 := by
  rw [Bool.eq_iff_iff, nf_iff n sh5 12 (by omega) (by decide)]
  simp [Sh.lo, Sh.hi, sh5, tm_iff]
  omega
theorem nf_6 (n : Int) : (decide (-1048576 ≤ n) && decide (n ≤ 1048575) && (n.tmod 2 == 0)) = nfB n sh6 := by
  rw [Bool.eq_iff_iff, nf_iff n sh6 1 (by omega) (by decide)]
  simp [Sh.lo, Sh.hi, sh6, tm_iff]
  omega
theorem nf_7 (n : Int) : (n == 0) = nfB n sh7 := by
  rw [Bool.eq_iff_iff, nf_iff n sh7 0 (by omega) (by decide)]
  simp [Sh.lo, Sh.hi, sh7]
  omega
theorem rightk_0 (o d a b n l m h : Int) (w : World) (hF : FormIs o 82 l m h) :
    Calls Tryd.prog 10 #[instV o d a b n] w fun e w' => e = .returned (.bool (rightB d a b n sh0)) ∧ Below w.heap.size w w' := by
  have e : rightB d a b n sh0 = (regOk sh0.rd d && regOk sh0.ra a && regOk sh0.rb b && nfB n sh0) := by simp only [rightB, fit_reg]
  rw [e, ← nf_0]
  exact right_core o d a b n 82 l m h _ _ ⟨#[100, 97, 98]⟩ _ _ _ _ w hF has_0 signs_0 (by decide) (by decide) (by decide) (.z _ _ (by decide))
theorem rightk_1 (o d a b n l m h : Int) (w : World) (hF : FormIs o 73 l m h) :
    Calls Tryd.prog 10 #[instV o d a b n] w fun e w' => e = .returned (.bool (rightB d a b n sh1)) ∧ Below w.heap.size w w' := by
  have e : rightB d a b n sh1 = (regOk sh1.rd d && regOk sh1.ra a && regOk sh1.rb b && nfB n sh1) := by simp only [rightB, fit_reg]
  rw [e, ← nf_1]
  exact right_core o d a b n 73 l m h _ _ ⟨#[100, 97]⟩ _ _ _ _ w hF has_1 signs_1 (by decide) (by decide) (by decide) (.i _ (by decide))
theorem rightk_2 (o d a b n l m h : Int) (w : World) (hF : FormIs o 72 l m h) :
    Calls Tryd.prog 10 #[instV o d a b n] w fun e w' => e = .returned (.bool (rightB d a b n sh2)) ∧ Below w.heap.size w w' := by
  have e : rightB d a b n sh2 = (regOk sh2.rd d && regOk sh2.ra a && regOk sh2.rb b && nfB n sh2) := by simp only [rightB, fit_reg]
  rw [e, ← nf_2]
  exact right_core o d a b n 72 l m h _ _ ⟨#[100, 97]⟩ _ _ _ _ w hF has_2 signs_2 (by decide) (by decide) (by decide) (.h _ _)
theorem rightk_3 (o d a b n l m h : Int) (w : World) (hF : FormIs o 83 l m h) :
    Calls Tryd.prog 10 #[instV o d a b n] w fun e w' => e = .returned (.bool (rightB d a b n sh3)) ∧ Below w.heap.size w w' := by
  have e : rightB d a b n sh3 = (regOk sh3.rd d && regOk sh3.ra a && regOk sh3.rb b && nfB n sh3) := by simp only [rightB, fit_reg]
  rw [e, ← nf_3]
  exact right_core o d a b n 83 l m h _ _ ⟨#[97, 98]⟩ _ _ _ _ w hF has_3 signs_3 (by decide) (by decide) (by decide) (.i _ (by decide))
theorem rightk_4 (o d a b n l m h : Int) (w : World) (hF : FormIs o 66 l m h) :
    Calls Tryd.prog 10 #[instV o d a b n] w fun e w' => e = .returned (.bool (rightB d a b n sh4)) ∧ Below w.heap.size w w' := by
  have e : rightB d a b n sh4 = (regOk sh4.rd d && regOk sh4.ra a && regOk sh4.rb b && nfB n sh4) := by simp only [rightB, fit_reg]
  rw [e, ← nf_4]
  exact right_core o d a b n 66 l m h _ _ ⟨#[97, 98]⟩ _ _ _ _ w hF has_4 signs_4 (by decide) (by decide) (by decide) (.b _ (by decide))
theorem rightk_5 (o d a b n l m h : Int) (w : World) (hF : FormIs o 85 l m h) :
    Calls Tryd.prog 10 #[instV o d a b n] w fun e w' => e = .returned (.bool (rightB d a b n sh5)) ∧ Below w.heap.size w w' := by
  have e : rightB d a b n sh5 = (regOk sh5.rd d && regOk sh5.ra a && regOk sh5.rb b && nfB n sh5) := by simp only [rightB, fit_reg]
  rw [e, ← nf_5]
  exact right_core o d a b n 85 l m h _ _ ⟨#[100]⟩ _ _ _ _ w hF has_5 signs_5 (by decide) (by decide) (by decide) (.u _ (by decide))
theorem rightk_6 (o d a b n l m h : Int) (w : World) (hF : FormIs o 74 l m h) :
    Calls Tryd.prog 10 #[instV o d a b n] w fun e w' => e = .returned (.bool (rightB d a b n sh6)) ∧ Below w.heap.size w w' := by
  have e : rightB d a b n sh6 = (regOk sh6.rd d && regOk sh6.ra a && regOk sh6.rb b && nfB n sh6) := by simp only [rightB, fit_reg]
  rw [e, ← nf_6]
  exact right_core o d a b n 74 l m h _ _ ⟨#[100]⟩ _ _ _ _ w hF has_6 signs_6 (by decide) (by decide) (by decide) (.j _ (by decide))
theorem rightk_7 (o d a b n l m h : Int) (w : World) (hF : FormIs o 69 l m h) :
    Calls Tryd.prog 10 #[instV o d a b n] w fun e w' => e = .returned (.bool (rightB d a b n sh7)) ∧ Below w.heap.size w w' := by
  have e : rightB d a b n sh7 = (regOk sh7.rd d && regOk sh7.ra a && regOk sh7.rb b && nfB n sh7) := by simp only [rightB, fit_reg]
  rw [e, ← nf_7]
  exact right_core o d a b n 69 l m h _ _ ⟨#[]⟩ _ _ _ _ w hF has_7 signs_7 (by decide) (by decide) (by decide) (.z _ _ (by decide))
theorem right_doc_in (o : Nat) (h1 : 1 ≤ o) (h2 : o ≤ 31) (d a b n : Int) (w : World) :
    Calls Tryd.prog 10 #[instV o d a b n] w fun e w' => e = .returned (.bool (rightB d a b n (T.sh (T.kd o)))) ∧ Below w.heap.size w w' := by
  have hc : o = 1 ∨ o = 2 ∨ o = 3 ∨ o = 4 ∨ o = 5 ∨ o = 6 ∨ o = 7 ∨ o = 8 ∨ o = 9 ∨ o = 10 ∨ o = 11 ∨ o = 12 ∨ o = 13 ∨ o = 14 ∨ o = 15 ∨ o = 16 ∨ o = 17 ∨ o = 18 ∨ o = 19 ∨ o = 20 ∨ o = 21 ∨ o = 22 ∨ o = 23 ∨ o = 24 ∨ o = 25 ∨ o = 26 ∨ o = 27 ∨ o = 28 ∨ o = 29 ∨ o = 30 ∨ o = 31 := by omega
  rcases hc with rfl | rfl | rfl | rfl | rfl | rfl | rfl | rfl | rfl | rfl | rfl | rfl | rfl | rfl | rfl | rfl | rfl | rfl | rfl | rfl | rfl | rfl | rfl | rfl | rfl | rfl | rfl | rfl | rfl | rfl | rfl
  · exact rightk_0 _ d a b n _ _ _ w formOf_1
  · exact rightk_0 _ d a b n _ _ _ w formOf_2
  · exact rightk_0 _ d a b n _ _ _ w formOf_3
  · exact rightk_0 _ d a b n _ _ _ w formOf_4
  · exact rightk_0 _ d a b n _ _ _ w formOf_5
  · exact rightk_0 _ d a b n _ _ _ w formOf_6
  · exact rightk_0 _ d a b n _ _ _ w formOf_7
  · exact rightk_0 _ d a b n _ _ _ w formOf_8
  · exact rightk_0 _ d a b n _ _ _ w formOf_9
  · exact rightk_0 _ d a b n _ _ _ w formOf_10
  · exact rightk_0 _ d a b n _ _ _ w formOf_11
  · exact rightk_0 _ d a b n _ _ _ w formOf_12
  · exact rightk_0 _ d a b n _ _ _ w formOf_13
  · exact rightk_1 _ d a b n _ _ _ w formOf_14
  · exact rightk_1 _ d a b n _ _ _ w formOf_15
  · exact rightk_1 _ d a b n _ _ _ w formOf_16
  · exact rightk_1 _ d a b n _ _ _ w formOf_17
  · exact rightk_1 _ d a b n _ _ _ w formOf_18
  · exact rightk_2 _ d a b n _ _ _ w formOf_19
  · exact rightk_2 _ d a b n _ _ _ w formOf_20
  · exact rightk_2 _ d a b n _ _ _ w formOf_21
  · exact rightk_1 _ d a b n _ _ _ w formOf_22
  · exact rightk_1 _ d a b n _ _ _ w formOf_23
  · exact rightk_3 _ d a b n _ _ _ w formOf_24
  · exact rightk_4 _ d a b n _ _ _ w formOf_25
  · exact rightk_4 _ d a b n _ _ _ w formOf_26
  · exact rightk_4 _ d a b n _ _ _ w formOf_27
  · exact rightk_4 _ d a b n _ _ _ w formOf_28
  · exact rightk_5 _ d a b n _ _ _ w formOf_29
  · exact rightk_6 _ d a b n _ _ _ w formOf_30
  · exact rightk_7 _ d a b n _ _ _ w formOf_31

set_option maxRecDepth 100000 in
set_option maxHeartbeats 4000000 in
theorem formOf_out (o : Int) (ho : o < 1 ∨ 31 < o) (w : World) : Calls Tryd.prog 15 #[.int .i64 o] w fun e w' => e = .returned (.tuple #[.agg zero45, .bool false]) ∧ Below w.heap.size w w' := by
  have e1 : (o == 1) = false := by simp; omega
  have e2 : (o == 2) = false := by simp; omega
  have e3 : (o == 3) = false := by simp; omega
  have e4 : (o == 4) = false := by simp; omega
  have e5 : (o == 5) = false := by simp; omega
  have e6 : (o == 6) = false := by simp; omega
  have e7 : (o == 7) = false := by simp; omega
  have e8 : (o == 8) = false := by simp; omega
  have e9 : (o == 9) = false := by simp; omega
  have e10 : (o == 10) = false := by simp; omega
  have e11 : (o == 11) = false := by simp; omega
  have e12 : (o == 12) = false := by simp; omega
  have e13 : (o == 13) = false := by simp; omega
  have e14 : (o == 14) = false := by simp; omega
  have e15 : (o == 15) = false := by simp; omega
  have e16 : (o == 16) = false := by simp; omega
  have e17 : (o == 17) = false := by simp; omega
  have e18 : (o == 18) = false := by simp; omega
  have e19 : (o == 19) = false := by simp; omega
  have e20 : (o == 20) = false := by simp; omega
  have e21 : (o == 21) = false := by simp; omega
  have e22 : (o == 22) = false := by simp; omega
  have e23 : (o == 23) = false := by simp; omega
  have e24 : (o == 24) = false := by simp; omega
  have e25 : (o == 25) = false := by simp; omega
  have e26 : (o == 26) = false := by simp; omega
  have e27 : (o == 27) = false := by simp; omega
  have e28 : (o == 28) = false := by simp; omega
  have e29 : (o == 29) = false := by simp; omega
  have e30 : (o == 30) = false := by simp; omega
  have e31 : (o == 31) = false := by simp; omega
  clear ho
  go_enter Tryd.func15, Tryd.ntmps15
  go_wp2_with fail
  exact bodyPost_ret (res45 _ _ _ Tryd.results15 _ _ w.heap.size _ _ _ _ _ rfl (heap_alloc_last w _)) rfl ⟨rfl, (Below.refl _ _).alloc (Nat.le_refl _) _⟩

set_option maxRecDepth 100000 in
set_option maxHeartbeats 4000000 in
theorem right_doc_out (o d a b n : Int) (ho : o < 1 ∨ 31 < o) (w : World) :
    Calls Tryd.prog 10 #[instV o d a b n] w fun e w' => e = .returned (.bool false) ∧ Below w.heap.size w w' := by
  go_enter Tryd.func10, Tryd.ntmps10
  go_wp2_with fail
  refine (formOf_out o ho _).mono ?_
  rintro e w1 ⟨rfl, hb⟩
  have hsz := hb.size
  simp at hsz
  have HB : Hid (Below w.heap.size w w1) := ((Below.refl _ _).alloc (Nat.le_refl _) _).trans (hb.mono (by simp))
  clear hb
  go_wp2_with (
    refine wpList_store_row rfl 45 _ _ rfl _ 45 _ _ rfl rfl (heap_alloc_last _ _) (by kernel_rfl) rfl (one45 _ _ _ _ _) ?_)
  go_ret
  exact ⟨rfl, below_setRow (HB.out.alloc (by omega) _) (by omega) _⟩

theorem right_doc (o d a b n : Int) (w : World) :
    Calls Tryd.prog 10 #[instV o d a b n] w fun e w' => e = .returned (.bool (Rt o d a b n)) ∧ Below w.heap.size w w' := by
  by_cases h1 : 1 ≤ o
  · by_cases h2 : o ≤ 31
    · obtain ⟨k, rfl⟩ := Int.eq_ofNat_of_zero_le (show 0 ≤ o by omega)
      have e : Rt (k : Int) d a b n = rightB d a b n (T.sh (T.kd k)) := by simp [Rt, h1, h2]
      rw [e]
      exact right_doc_in k (by omega) (by omega) d a b n w
    · have e : Rt o d a b n = false := by simp [Rt, h2]
      rw [e]
      exact right_doc_out o d a b n (.inr (by omega)) w
  · have e : Rt o d a b n = false := by simp [Rt, h1]
    rw [e]
    exact right_doc_out o d a b n (.inl (by omega)) w
end Go.Proofs.YtchankbdfkgdiaaDoor
