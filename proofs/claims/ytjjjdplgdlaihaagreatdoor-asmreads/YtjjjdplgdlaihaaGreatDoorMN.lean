/- RightInst of the document's own answer: the same as Right's, at every instruction. The document's Assemble: what is in memory behind so many lines, and behind so many drafts. The document's PlaceName, walked: it is package asm's Name. -/
import Derived.Test.YtjjjdplgdlaihaaGreatDoorE5
import Derived.Test.YtjjjdplgdlaihaaGreatDoorML
import Derived.Test.YtjjjdplgdlaihaaGreatDoorMK
import Derived.Test.YtjjjdplgdlaihaaGreatDoorMM
import Derived.Laws.OwnMore
import Derived.Test.YtjjjdplgdlaihaaGreatDoorMH
namespace Go.Proofs.YtjjjdplgdlaihaaGreatDoor
open Go Go.RowKit

theorem nf_iff (n : Int) (s : Sh) (z : Nat) (hz : z ≤ 32) (ez : s.pz = (2 : Int) ^ z) : nfB n s = true ↔ s.lo ≤ n ∧ n < s.hi ∧ n % (2 : Int) ^ z = 0 := by
  unfold nfB
  rw [ez, and64 n z hz]
  simp [and_assoc]
theorem fit_reg (t : Bool) (x : Int) : regOk t x = fitB x t := by
  rw [Bool.eq_iff_iff]
  cases t <;> simp [regOk, fitB] <;> omega
theorem tm_iff (n p : Int) : n.tmod p = 0 ↔ n % p = 0 :=
  ⟨fun h => Int.emod_eq_zero_of_dvd (Int.dvd_of_tmod_eq_zero h), fun h => Int.tmod_eq_zero_of_dvd (Int.dvd_of_emod_eq_zero h)⟩
theorem nf_0 (n : Int) : (n == 0) = nfB n sh0 := by
  rw [Bool.eq_iff_iff, nf_iff n sh0 0 (by omega) (by decide)]
  simp [Sh.lo, Sh.hi, sh0]
  omega
theorem nf_1 (n : Int) : (decide (-2048 ≤ n) && decide (n ≤ 2047)) = nfB n sh1 := by
  rw [Bool.eq_iff_iff, nf_iff n sh1 0 (by omega) (by decide)]
  simp [Sh.lo, Sh.hi, sh1]
  omega
theorem nf_2 (n : Int) : (decide (0 ≤ n) && decide (n ≤ 63)) = nfB n sh2 := by
  rw [Bool.eq_iff_iff, nf_iff n sh2 0 (by omega) (by decide)]
  simp [Sh.lo, Sh.hi, sh2]
  omega
theorem nf_3 (n : Int) : (decide (-2048 ≤ n) && decide (n ≤ 2047)) = nfB n sh3 := by
  rw [Bool.eq_iff_iff, nf_iff n sh3 0 (by omega) (by decide)]
  simp [Sh.lo, Sh.hi, sh3]
  omega
theorem nf_4 (n : Int) : (decide (-4096 ≤ n) && decide (n ≤ 4095) && (n.tmod 2 == 0)) = nfB n sh4 := by
  rw [Bool.eq_iff_iff, nf_iff n sh4 1 (by omega) (by decide)]
  simp [Sh.lo, Sh.hi, sh4, tm_iff]
  omega
theorem nf_5 (n : Int) : (decide (-2147483648 ≤ n) && decide (n ≤ 2147483647) && (n.tmod 4096 == 0)) = nfB n sh5 := by
  rw [Bool.eq_iff_iff, nf_iff n sh5 12 (by omega) (by decide)]
  simp [Sh.lo, Sh.hi, sh5, tm_iff]
  omega
theorem nf_6 (n : Int) : (decide (-1048576 ≤ n) && decide (n ≤ 1048575) && (n.tmod 2 == 0)) = nfB n sh6 := by
  rw [Bool.eq_iff_iff, nf_iff n sh6 1 (by omega) (by decide)]
  simp [Sh.lo, Sh.hi, sh6, tm_iff]
  omega
theorem nf_7 (n : Int) : (n == 0) = nfB n sh7 := by
  rw [Bool.eq_iff_iff, nf_iff n sh7 0 (by omega) (by decide)]
  simp [Sh.lo, Sh.hi, sh7]
  omega
theorem rightk_0 (o d a b n l m h : Int) (w : World) (hF : FormIs o 82 l m h) :
    Calls Tryz.prog 23 #[instV o d a b n] w fun e w' => e = .returned (.bool (rightB d a b n sh0)) ∧ Below w.heap.size w w' := by
  have e : rightB d a b n sh0 = (regOk sh0.rd d && regOk sh0.ra a && regOk sh0.rb b && nfB n sh0) := by simp only [rightB, fit_reg]
  rw [e, ← nf_0]
  exact right_core o d a b n 82 l m h _ _ ⟨#[100, 97, 98]⟩ _ _ _ _ w hF has_0 signs_0 (by decide) (by decide) (by decide) (.z _ _ (by decide))
theorem rightk_1 (o d a b n l m h : Int) (w : World) (hF : FormIs o 73 l m h) :
    Calls Tryz.prog 23 #[instV o d a b n] w fun e w' => e = .returned (.bool (rightB d a b n sh1)) ∧ Below w.heap.size w w' := by
  have e : rightB d a b n sh1 = (regOk sh1.rd d && regOk sh1.ra a && regOk sh1.rb b && nfB n sh1) := by simp only [rightB, fit_reg]
  rw [e, ← nf_1]
  exact right_core o d a b n 73 l m h _ _ ⟨#[100, 97]⟩ _ _ _ _ w hF has_1 signs_1 (by decide) (by decide) (by decide) (.i _ (by decide))
theorem rightk_2 (o d a b n l m h : Int) (w : World) (hF : FormIs o 72 l m h) :
    Calls Tryz.prog 23 #[instV o d a b n] w fun e w' => e = .returned (.bool (rightB d a b n sh2)) ∧ Below w.heap.size w w' := by
  have e : rightB d a b n sh2 = (regOk sh2.rd d && regOk sh2.ra a && regOk sh2.rb b && nfB n sh2) := by simp only [rightB, fit_reg]
  rw [e, ← nf_2]
  exact right_core o d a b n 72 l m h _ _ ⟨#[100, 97]⟩ _ _ _ _ w hF has_2 signs_2 (by decide) (by decide) (by decide) (.h _ _)
theorem rightk_3 (o d a b n l m h : Int) (w : World) (hF : FormIs o 83 l m h) :
    Calls Tryz.prog 23 #[instV o d a b n] w fun e w' => e = .returned (.bool (rightB d a b n sh3)) ∧ Below w.heap.size w w' := by
  have e : rightB d a b n sh3 = (regOk sh3.rd d && regOk sh3.ra a && regOk sh3.rb b && nfB n sh3) := by simp only [rightB, fit_reg]
  rw [e, ← nf_3]
  exact right_core o d a b n 83 l m h _ _ ⟨#[97, 98]⟩ _ _ _ _ w hF has_3 signs_3 (by decide) (by decide) (by decide) (.i _ (by decide))
theorem rightk_4 (o d a b n l m h : Int) (w : World) (hF : FormIs o 66 l m h) :
    Calls Tryz.prog 23 #[instV o d a b n] w fun e w' => e = .returned (.bool (rightB d a b n sh4)) ∧ Below w.heap.size w w' := by
  have e : rightB d a b n sh4 = (regOk sh4.rd d && regOk sh4.ra a && regOk sh4.rb b && nfB n sh4) := by simp only [rightB, fit_reg]
  rw [e, ← nf_4]
  exact right_core o d a b n 66 l m h _ _ ⟨#[97, 98]⟩ _ _ _ _ w hF has_4 signs_4 (by decide) (by decide) (by decide) (.b _ (by decide))
theorem rightk_5 (o d a b n l m h : Int) (w : World) (hF : FormIs o 85 l m h) :
    Calls Tryz.prog 23 #[instV o d a b n] w fun e w' => e = .returned (.bool (rightB d a b n sh5)) ∧ Below w.heap.size w w' := by
  have e : rightB d a b n sh5 = (regOk sh5.rd d && regOk sh5.ra a && regOk sh5.rb b && nfB n sh5) := by simp only [rightB, fit_reg]
  rw [e, ← nf_5]
  exact right_core o d a b n 85 l m h _ _ ⟨#[100]⟩ _ _ _ _ w hF has_5 signs_5 (by decide) (by decide) (by decide) (.u _ (by decide))
theorem rightk_6 (o d a b n l m h : Int) (w : World) (hF : FormIs o 74 l m h) :
    Calls Tryz.prog 23 #[instV o d a b n] w fun e w' => e = .returned (.bool (rightB d a b n sh6)) ∧ Below w.heap.size w w' := by
  have e : rightB d a b n sh6 = (regOk sh6.rd d && regOk sh6.ra a && regOk sh6.rb b && nfB n sh6) := by simp only [rightB, fit_reg]
  rw [e, ← nf_6]
  exact right_core o d a b n 74 l m h _ _ ⟨#[100]⟩ _ _ _ _ w hF has_6 signs_6 (by decide) (by decide) (by decide) (.j _ (by decide))
theorem rightk_7 (o d a b n l m h : Int) (w : World) (hF : FormIs o 69 l m h) :
    Calls Tryz.prog 23 #[instV o d a b n] w fun e w' => e = .returned (.bool (rightB d a b n sh7)) ∧ Below w.heap.size w w' := by
  have e : rightB d a b n sh7 = (regOk sh7.rd d && regOk sh7.ra a && regOk sh7.rb b && nfB n sh7) := by simp only [rightB, fit_reg]
  rw [e, ← nf_7]
  exact right_core o d a b n 69 l m h _ _ ⟨#[]⟩ _ _ _ _ w hF has_7 signs_7 (by decide) (by decide) (by decide) (.z _ _ (by decide))
theorem right_doc_in (o : Nat) (h1 : 1 ≤ o) (h2 : o ≤ 31) (d a b n : Int) (w : World) :
    Calls Tryz.prog 23 #[instV o d a b n] w fun e w' => e = .returned (.bool (rightB d a b n (T.sh (T.kd o)))) ∧ Below w.heap.size w w' := by
  have hc : o = 1 ∨ o = 2 ∨ o = 3 ∨ o = 4 ∨ o = 5 ∨ o = 6 ∨ o = 7 ∨ o = 8 ∨ o = 9 ∨ o = 10 ∨ o = 11 ∨ o = 12 ∨ o = 13 ∨ o = 14 ∨ o = 15 ∨ o = 16 ∨ o = 17 ∨ o = 18 ∨ o = 19 ∨ o = 20 ∨ o = 21 ∨ o = 22 ∨ o = 23 ∨ o = 24 ∨ o = 25 ∨ o = 26 ∨ o = 27 ∨ o = 28 ∨ o = 29 ∨ o = 30 ∨ o = 31 := by omega
  rcases hc with rfl | rfl | rfl | rfl | rfl | rfl | rfl | rfl | rfl | rfl | rfl | rfl | rfl | rfl | rfl | rfl | rfl | rfl | rfl | rfl | rfl | rfl | rfl | rfl | rfl | rfl | rfl | rfl | rfl | rfl | rfl
  · exact rightk_0 _ d a b n _ _ _ w formOf_1
  · exact rightk_0 _ d a b n _ _ _ w formOf_2
  · exact rightk_0 _ d a b n _ _ _ w formOf_3
  · exact rightk_0 _ d a b n _ _ _ w formOf_4
  · exact rightk_0 _ d a b n _ _ _ w formOf_5
  · exact rightk_0 _ d a b n _ _ _ w formOf_6
  · exact rightk_0 _ d a b n _ _ _ w formOf_7
  · exact rightk_0 _ d a b n _ _ _ w formOf_8
  · exact rightk_0 _ d a b n _ _ _ w formOf_9
  · exact rightk_0 _ d a b n _ _ _ w formOf_10
  · exact rightk_0 _ d a b n _ _ _ w formOf_11
  · exact rightk_0 _ d a b n _ _ _ w formOf_12
  · exact rightk_0 _ d a b n _ _ _ w formOf_13
  · exact rightk_1 _ d a b n _ _ _ w formOf_14
  · exact rightk_1 _ d a b n _ _ _ w formOf_15
  · exact rightk_1 _ d a b n _ _ _ w formOf_16
  · exact rightk_1 _ d a b n _ _ _ w formOf_17
  · exact rightk_1 _ d a b n _ _ _ w formOf_18
  · exact rightk_2 _ d a b n _ _ _ w formOf_19
  · exact rightk_2 _ d a b n _ _ _ w formOf_20
  · exact rightk_2 _ d a b n _ _ _ w formOf_21
  · exact rightk_1 _ d a b n _ _ _ w formOf_22
  · exact rightk_1 _ d a b n _ _ _ w formOf_23
  · exact rightk_3 _ d a b n _ _ _ w formOf_24
  · exact rightk_4 _ d a b n _ _ _ w formOf_25
  · exact rightk_4 _ d a b n _ _ _ w formOf_26
  · exact rightk_4 _ d a b n _ _ _ w formOf_27
  · exact rightk_4 _ d a b n _ _ _ w formOf_28
  · exact rightk_5 _ d a b n _ _ _ w formOf_29
  · exact rightk_6 _ d a b n _ _ _ w formOf_30
  · exact rightk_7 _ d a b n _ _ _ w formOf_31

set_option maxRecDepth 100000 in
set_option maxHeartbeats 4000000 in
theorem formOf_out (o : Int) (ho : o < 1 ∨ 31 < o) (w : World) : Calls Tryz.prog 32 #[.int .i64 o] w fun e w' => e = .returned (.tuple #[.agg zero45, .bool false]) ∧ Below w.heap.size w w' := by
  have e1 : (o == 1) = false := by simp; omega
  have e2 : (o == 2) = false := by simp; omega
  have e3 : (o == 3) = false := by simp; omega
  have e4 : (o == 4) = false := by simp; omega
  have e5 : (o == 5) = false := by simp; omega
  have e6 : (o == 6) = false := by simp; omega
  have e7 : (o == 7) = false := by simp; omega
  have e8 : (o == 8) = false := by simp; omega
  have e9 : (o == 9) = false := by simp; omega
  have e10 : (o == 10) = false := by simp; omega
  have e11 : (o == 11) = false := by simp; omega
  have e12 : (o == 12) = false := by simp; omega
  have e13 : (o == 13) = false := by simp; omega
  have e14 : (o == 14) = false := by simp; omega
  have e15 : (o == 15) = false := by simp; omega
  have e16 : (o == 16) = false := by simp; omega
  have e17 : (o == 17) = false := by simp; omega
  have e18 : (o == 18) = false := by simp; omega
  have e19 : (o == 19) = false := by simp; omega
  have e20 : (o == 20) = false := by simp; omega
  have e21 : (o == 21) = false := by simp; omega
  have e22 : (o == 22) = false := by simp; omega
  have e23 : (o == 23) = false := by simp; omega
  have e24 : (o == 24) = false := by simp; omega
  have e25 : (o == 25) = false := by simp; omega
  have e26 : (o == 26) = false := by simp; omega
  have e27 : (o == 27) = false := by simp; omega
  have e28 : (o == 28) = false := by simp; omega
  have e29 : (o == 29) = false := by simp; omega
  have e30 : (o == 30) = false := by simp; omega
  have e31 : (o == 31) = false := by simp; omega
  clear ho
  go_enter Tryz.func32, Tryz.ntmps32
  go_wp2_with fail
  exact bodyPost_ret (res45 _ _ _ Tryz.results32 _ _ w.heap.size _ _ _ _ _ rfl (heap_alloc_last w _)) rfl ⟨rfl, (Below.refl _ _).alloc (Nat.le_refl _) _⟩

set_option maxRecDepth 100000 in
set_option maxHeartbeats 4000000 in
theorem right_doc_out (o d a b n : Int) (ho : o < 1 ∨ 31 < o) (w : World) :
    Calls Tryz.prog 23 #[instV o d a b n] w fun e w' => e = .returned (.bool false) ∧ Below w.heap.size w w' := by
  go_enter Tryz.func23, Tryz.ntmps23
  go_wp2_with fail
  refine (formOf_out o ho _).mono ?_
  rintro e w1 ⟨rfl, hb⟩
  have hsz := hb.size
  simp at hsz
  have HB : Hid (Below w.heap.size w w1) := ((Below.refl _ _).alloc (Nat.le_refl _) _).trans (hb.mono (by simp))
  clear hb
  go_wp2_with (
    refine wpList_store_row rfl 80 _ _ rfl _ 80 _ _ rfl rfl (heap_alloc_last _ _) (by kernel_rfl) rfl (one45 _ _ _ _ _) ?_)
  go_ret
  exact ⟨rfl, below_setRow (HB.out.alloc (by omega) _) (by omega) _⟩

theorem right_doc (o d a b n : Int) (w : World) :
    Calls Tryz.prog 23 #[instV o d a b n] w fun e w' => e = .returned (.bool (Rt o d a b n)) ∧ Below w.heap.size w w' := by
  by_cases h1 : 1 ≤ o
  · by_cases h2 : o ≤ 31
    · obtain ⟨k, rfl⟩ := Int.eq_ofNat_of_zero_le (show 0 ≤ o by omega)
      have e : Rt (k : Int) d a b n = rightB d a b n (T.sh (T.kd k)) := by simp [Rt, h1, h2]
      rw [e]
      exact right_doc_in k (by omega) (by omega) d a b n w
    · have e : Rt o d a b n = false := by simp [Rt, h2]
      rw [e]
      exact right_doc_out o d a b n (.inr (by omega)) w
  · have e : Rt o d a b n = false := by simp [Rt, h1]
    rw [e]
    exact right_doc_out o d a b n (.inl (by omega)) w
end Go.Proofs.YtjjjdplgdlaihaaGreatDoor

namespace Go.Proofs.YtjjjdplgdlaihaaGreatDoor
set_option linter.unusedVariables false
open Go Go.RowKit

theorem row_ne {W : World} {B e1 e2 z1 z2 n1 n2 : Nat} {v1 v2 : Value} {l1 l2 : List Value} (h1 : W.ownsRow B e1 z1 v1 n1 l1) (h2 : W.ownsRow B e2 z2 v2 n2 l2) (hne : e1 ≠ e2) : v1.ownBlock = none ∨ v1.ownBlock ≠ v2.ownBlock := by
  rcases h1.2 with ⟨rfl, _⟩ | ⟨g, cap, cur, rfl, _, hg, _⟩
  · exact .inl rfl
  · rcases h2.2 with ⟨rfl, _⟩ | ⟨g2, cap2, cur2, rfl, _, hg2, _⟩
    · exact .inr (by simp [Value.ownBlock])
    · refine .inr fun e => ?_
      simp [Value.ownBlock] at e
      subst e
      rw [hg] at hg2
      injection hg2 with hg2
      injection hg2 with _ h
      exact hne h
theorem row_not {W : World} {B e z n b : Nat} {v : Value} {l : List Value} (h : W.ownsRow B e z v n l) (hb : b < B) : v.ownBlock = none ∨ v.ownBlock ≠ some b := by
  cases hv : v.ownBlock with
  | none => exact .inl rfl
  | some k => exact .inr fun e => by have := (h.lt k hv).1; injection e with e; omega
theorem grown_none {w w' : World} (hb : Below w.heap.size w w') : w.grownBy w' none := ⟨hb.os, hb.tape, hb.output, hb.size, fun j hj _ => hb.block j hj⟩

/-- Behind so many lines: drafts, places, and where they lie. -/
structure RI (w : World) (s : By) (pls : List ByteArray) (k : Nat) (ds : Drafts) (ps : Places) (xs : List Dr) (v5 v6 v7 : Value) (W : World) : Prop where
  st : upV s k = .ok (ds, ps)
  mat : Mat xs ds
  r5 : W.ownsRow (w.heap.size + 3) 39 5 v5 ds.length (ins xs)
  r6 : W.ownsRow (w.heap.size + 3) 9 1 v6 ds.length (ds.map fun x => str x.1.pl)
  r7 : W.ownsRow (w.heap.size + 3) 3 1 v7 ds.length (ds.map fun x => .int .i64 (x.2 : Int))
  pl : PlAt W (w.heap.size + 1) k ps
  res : W.heap[w.heap.size]? = some (.cells #[.int .i64 0, .int .i64 0] 25)
  sp : W.heap[w.heap.size + 2]? = some (.cells (pls.map Value.string).toArray 9)
  low : Below w.heap.size w W
section
variable {w W W' : World} {s : By} {pls : List ByteArray} {k : Nat} {ds : Drafts} {ps : Places} {xs : List Dr} {v5 v6 v7 : Value}
theorem RI.lt (h : RI w s pls k ds ps xs v5 v6 v7 W) : w.heap.size + 3 ≤ W.heap.size := (Array.getElem?_eq_some_iff.1 h.sp).1
theorem RI.kept (h : RI w s pls k ds ps xs v5 v6 v7 W) (hg : W.grownBy W' none) : RI w s pls k ds ps xs v5 v6 v7 W' := by
  have hl := h.lt
  have nn : ∀ v : Value, v.ownBlock = none ∨ v.ownBlock ≠ none := fun v => by cases v.ownBlock <;> simp
  exact ⟨h.st, h.mat, h.r5.kept hg (nn _), h.r6.kept hg (nn _), h.r7.kept hg (nn _), World.ownsMap.kept h.pl hg (by simp), by rw [hg.block _ (by omega) (by simp)]; exact h.res, by rw [hg.block _ (by omega) (by simp)]; exact h.sp, h.low.grown hg (by omega) (fun _ e => by cases e)⟩
theorem RI.below (h : RI w s pls k ds ps xs v5 v6 v7 W) (hb : Below W.heap.size W W') : RI w s pls k ds ps xs v5 v6 v7 W' := h.kept (grown_none hb)
theorem RI.blank (h : RI w s pls k ds ps xs v5 v6 v7 W) (hl : (linesV s)[k]? = some []) : RI w s pls (k + 1) ds ps xs v5 v6 v7 W := by
  refine ⟨?_, h.mat, h.r5, h.r6, h.r7, World.ownsMap.mono h.pl (by omega), h.res, h.sp, h.low⟩
  rw [upV_step s k _ hl, h.st, stepV]
  simp
theorem RI.mark (h : RI w s pls k ds ps xs v5 v6 v7 W) (l : By) (hl : (linesV s)[k]? = some l) (h0 : l ≠ []) (h1 : l.getLast? = some 58) (h2 : nameV l.dropLast = true) (h3 : (ps.lookup l.dropLast).isSome = false) (hp : PlAt W' (w.heap.size + 1) (k + 1) ((l.dropLast, ds.length) :: ps)) (hg : W.grownBy W' (some (w.heap.size + 1))) : RI w s pls (k + 1) ds ((l.dropLast, ds.length) :: ps) xs v5 v6 v7 W' := by
  have hlt := h.lt
  refine ⟨?_, h.mat, h.r5.kept hg (row_not h.r5 (by omega)), h.r6.kept hg (row_not h.r6 (by omega)), h.r7.kept hg (row_not h.r7 (by omega)), hp, by rw [hg.block _ (by omega) (by simp)]; exact h.res, by rw [hg.block _ (by omega) (by simp)]; exact h.sp, h.low.grown hg (by omega) (fun _ e => by injection e with e; omega)⟩
  rw [upV_step s k _ hl, h.st, stepV]
  rw [if_neg h0, if_pos h1, if_neg (by rw [h2]; decide), if_neg (by rw [h3]; decide)]
/-- What a line at fault tells. -/
theorem RI.bad (h : RI w s pls k ds ps xs v5 v6 v7 W) (l : By) (hl : (linesV s)[k]? = some l) (c : Int) (hc : stepV (.ok (ds, ps)) k l = .error (c, k)) : asmV rtD s = .error (c, k) := by
  refine asm_bad s (k + 1) _ ?_
  rw [upV_step s k _ hl, h.st]
  exact hc
theorem step_name {l : By} (h0 : l ≠ []) (h1 : l.getLast? = some 58) (h2 : nameV l.dropLast = false) : stepV (.ok (ds, ps)) k l = .error (3, k) := by
  rw [stepV]
  rw [if_neg h0, if_pos h1, if_pos h2]
theorem step_twice {l : By} (h0 : l ≠ []) (h1 : l.getLast? = some 58) (h2 : nameV l.dropLast = true) (h3 : (ps.lookup l.dropLast).isSome = true) : stepV (.ok (ds, ps)) k l = .error (9, k) := by
  rw [stepV]
  rw [if_neg h0, if_pos h1, if_neg (by rw [h2]; decide), if_pos h3]
theorem step_form {l : By} (h0 : l ≠ []) (h1 : l.getLast? ≠ some 58) (h2 : readV l = none) : stepV (.ok (ds, ps)) k l = .error (3, k) := by
  rw [stepV]
  rw [if_neg h0, if_neg h1, h2]
theorem RI.add (h : RI w s pls k ds ps xs v5 v6 v7 W) (l : By) (hl : (linesV s)[k]? = some l) (h0 : l ≠ []) (h1 : l.getLast? ≠ some 58) (d : Dr) (h2 : readV l = some d) (N : Int) (hN : d.pl = [] → N = d.n) {W' : World} {u5 u6 u7 : Value}
    (r5 : W'.ownsRow (w.heap.size + 3) 39 5 u5 (ds.length + 1) (ins xs ++ [.int .i64 d.o, .int .i64 d.d, .int .i64 d.a, .int .i64 d.b, .int .i64 N])) (r6 : W'.ownsRow (w.heap.size + 3) 9 1 u6 (ds.length + 1) ((ds.map fun x => str x.1.pl) ++ [str d.pl])) (r7 : W'.ownsRow (w.heap.size + 3) 3 1 u7 (ds.length + 1) ((ds.map fun x => .int .i64 (x.2 : Int)) ++ [.int .i64 (k : Int)]))
    (hb : Below (w.heap.size + 3) W W') : RI w s pls (k + 1) (ds ++ [(d, k)]) ps (xs ++ [⟨d.o, d.d, d.a, d.b, N, []⟩]) u5 u6 u7 W' := by
  have hlt := h.lt
  have e : (ds ++ [(d, k)]).length = ds.length + 1 := by simp
  refine ⟨?_, mat_snoc h.mat d k N hN, ?_, ?_, ?_, ?_, by rw [hb.block _ (by omega)]; exact h.res, by rw [hb.block _ (by omega)]; exact h.sp, h.low.trans (hb.mono (by omega))⟩
  · rw [upV_step s k _ hl, h.st, stepV]
    rw [if_neg h0, if_neg h1, h2]
  · rw [e, ins_app]; exact r5
  · rw [e, List.map_append]; exact r6
  · rw [e, List.map_append]; exact r7
  · obtain ⟨g1, g2, g3, g4, g5⟩ := hb
    have hp := World.ownsMap.mono h.pl (Nat.le_succ k)
    unfold PlAt World.ownsMap at *
    rw [g5 _ (by omega)]
    exact hp
end

/-- Where the drafts lie, and what they hold. -/
structure RK (w : World) (ds : Drafts) (ps : Places) (n : Nat) (zs : List Dr) (v5 v6 v7 : Value) (W : World) : Prop where
  r5 : W.ownsRow (w.heap.size + 3) 39 5 v5 ds.length (ins zs)
  r6 : W.ownsRow (w.heap.size + 3) 9 1 v6 ds.length (ds.map fun x => str x.1.pl)
  r7 : W.ownsRow (w.heap.size + 3) 3 1 v7 ds.length (ds.map fun x => .int .i64 (x.2 : Int))
  pl : PlAt W (w.heap.size + 1) n ps
  res : W.heap[w.heap.size]? = some (.cells #[.int .i64 0, .int .i64 0] 25)
  low : Below w.heap.size w W
  lt : w.heap.size + 3 ≤ W.heap.size
section
variable {w W W' : World} {s : By} {pls : List ByteArray} {k n : Nat} {ds : Drafts} {ps : Places} {xs zs : List Dr} {v5 v6 v7 : Value}
theorem RI.rk (h : RI w s pls k ds ps xs v5 v6 v7 W) : RK w ds ps k xs v5 v6 v7 W := ⟨h.r5, h.r6, h.r7, h.pl, h.res, h.low, h.lt⟩
theorem RK.kept (h : RK w ds ps n zs v5 v6 v7 W) (hb : Below W.heap.size W W') : RK w ds ps n zs v5 v6 v7 W' := by
  have hg := grown_none hb
  have hl := h.lt
  have nn : ∀ v : Value, v.ownBlock = none ∨ v.ownBlock ≠ none := fun v => by cases v.ownBlock <;> simp
  exact ⟨h.r5.kept hg (nn _), h.r6.kept hg (nn _), h.r7.kept hg (nn _), World.ownsMap.kept h.pl hg (by simp), by rw [hg.block _ (by omega) (by simp)]; exact h.res, h.low.grown hg (by omega) (fun _ e => by cases e), by have := hg.size; omega⟩
theorem RK.stored {g m c : Nat} {A B : List Dr} {x : Dr} (h : RK w ds ps n (A ++ x :: B) (.slice (some ⟨g, 0, none⟩) m c) v6 v7 W) (hm : m = ds.length) (N : Int) : RK w ds ps n (A ++ { x with n := N } :: B) (.slice (some ⟨g, 0, none⟩) m c) v6 v7 (W.setCell ⟨g, A.length * 5 + 4, none⟩ (.int .i64 N)) := by
  have hr := h.r5
  rw [← hm] at hr
  obtain ⟨h1, hg⟩ := hr.stored (A.length * 5 + 4) (.int .i64 N)
  have hl := h.lt
  have hgb := (h.r5.lt g rfl).1
  refine ⟨?_, h.r6.kept hg (row_ne h.r6 h.r5 (by decide)), h.r7.kept hg (row_ne h.r7 h.r5 (by decide)), World.ownsMap.kept h.pl hg (by intro e; injection e with e; omega), by rw [hg.block _ (by omega) (by intro e; injection e with e; omega)]; exact h.res, h.low.grown hg (by omega) (fun _ e => by injection e with e; omega), by have := hg.size; omega⟩
  rw [ins_set, hm] at h1
  rw [← hm]
  rw [← hm] at h1
  exact h1
theorem own_some {B e z n : Nat} {v : Value} {l : List Value} (h : W.ownsRow B e z v n l) (hn : 0 < n) : ∃ g c, v = .slice (some ⟨g, 0, none⟩) n c ∧ B ≤ g ∧ g < W.heap.size := by
  rcases h.2 with ⟨_, h0⟩ | ⟨g, cap, cur, rfl, hb, hg, _⟩
  · omega
  · exact ⟨g, cap, rfl, hb, (Array.getElem?_eq_some_iff.1 hg).1⟩
end
end Go.Proofs.YtjjjdplgdlaihaaGreatDoor

namespace Go.Proofs.YtjjjdplgdlaihaaGreatDoor
set_option linter.unusedVariables false
open Go Go.RowKit

/-- So far all may stand there. -/
def pre10 (s : By) (k : Nat) : Bool := (s.take k).all okC && (match s.take k with | [] => true | c :: _ => isL c)
theorem isL_ok {c : UInt8} (h : isL c = true) : okC c = true := by unfold okC; simp [h]
theorem pre10_step (s : ByteArray) (k : Nat) (h : k < s.size) : pre10 s.data.toList (k + 1) = (pre10 s.data.toList k && (if k = 0 then isL s[k] else okC s[k])) := by
  have hlen : s.data.toList.length = s.size := by simp
  have hg : s.data.toList[k]'(by omega) = s[k] := rfl
  unfold pre10
  rw [List.take_succ_eq_append_getElem (by omega), List.all_append, hg]
  by_cases h0 : k = 0
  · subst h0
    simp
    intro hc
    exact isL_ok hc
  · rw [if_neg h0]
    cases hs : s.data.toList with
    | nil => rw [hs] at hlen; simp at hlen; omega
    | cons c t =>
      obtain ⟨m, rfl⟩ : ∃ m, k = m + 1 := ⟨k - 1, by omega⟩
      simp only [List.take_succ_cons, List.cons_append, List.all_cons, List.all_nil, Bool.and_true]
      cases okC c <;> cases (List.take m t).all okC <;> cases okC s[m + 1] <;> cases isL c <;> rfl
theorem pre10_all (s : By) : (pre10 s s.length && inV (s.length : Int) 1 24) = nameV s := by
  unfold pre10 nameV inV
  rw [List.take_length]
  cases s with
  | nil => rfl
  | cons c t =>
    have e1 : decide ((1 : Int) ≤ ((c :: t).length : Int)) = decide (1 ≤ (c :: t).length) := by rw [Bool.eq_iff_iff]; simp; omega
    have e2 : decide (((c :: t).length : Int) ≤ 24) = decide ((c :: t).length ≤ 24) := by rw [Bool.eq_iff_iff]; simp; omega
    rw [e1, e2]
    dsimp only
    cases decide (1 ≤ (c :: t).length) <;> cases decide ((c :: t).length ≤ 24) <;> cases isL c <;> cases (c :: t).all okC <;> rfl
theorem pre10_false (s : By) (k n : Nat) (h : pre10 s k = false) (hk : k ≤ n) : pre10 s n = false := by
  unfold pre10 at h ⊢
  have e : s.take n = s.take k ++ (s.drop k).take (n - k) := by
    have : n = k + (n - k) := by omega
    rw [this, List.take_add]
    congr 2
    omega
  rw [e, List.all_append]
  cases hs : s.take k with
  | nil => rw [hs] at h; simp at h
  | cons c t =>
    rw [hs] at h
    simp only [List.cons_append, List.all_cons] at h ⊢
    revert h
    cases okC c <;> cases t.all okC <;> cases isL c <;> simp

set_option maxRecDepth 100000 in
set_option maxHeartbeats 4000000 in
theorem place_doc (s : ByteArray) (w : World) (hs : s.size < 4294967281) :
    Calls Tryz.prog 10 #[.string s] w fun e w' => e = .returned (.bool (nameV s.data.toList)) ∧ w' = w := by
  have hlen : s.data.toList.length = s.size := by simp
  have HN : Hid ((pre10 s.data.toList s.size && inV (s.size : Int) 1 24) = nameV s.data.toList) := by
    show _ = _
    have := pre10_all s.data.toList
    rw [hlen] at this
    exact this
  have HF : Hid (∀ k, k ≤ s.size → pre10 s.data.toList k = false → nameV s.data.toList = false) := fun k hk h => by
    rw [← HN.out, pre10_false _ k s.size h hk]
    rfl
  clear hlen
  go_enter Tryz.func10, Tryz.ntmps10
  go_wp2_with fail
  go_loopw [7] (fun i wr => ∃ k : Nat, k ≤ s.size ∧ i = .int .i64 k ∧ wr = w ∧ Hid (pre10 s.data.toList k = true)) (fun i _ => s.size - (intOf i).toNat)
  case atStart => exact ⟨0, Nat.zero_le _, rfl, rfl, by show _ = _; simp [pre10]⟩
  case round =>
    obtain ⟨k, hk, rfl, rfl, hpre⟩ := hrel
    by_cases hlt : k < s.size
    · have HS : Hid (pre10 s.data.toList (k + 1) = (if k = 0 then isL s[k] else okC s[k])) := by
        show _ = _
        rw [pre10_step s k hlt, hpre.out]
        rfl
      have HL : Hid (ltI (s[k].toNat : Int) = isL s[k]) := ltI_is _
      have HO : Hid (okI (s[k].toNat : Int) = okC s[k]) := okI_is _
      have hx0 : 0 ≤ (s[k].toNat : Int) := by omega
      obtain ⟨x, hx⟩ : ∃ x : Int, (s[k].toNat : Int) = x := ⟨_, rfl⟩
      rw [hx] at HL HO hx0
      by_cases hlet : 97 ≤ x ∧ x ≤ 122
      · obtain ⟨l1, l2⟩ := hlet
        have HG : Hid (pre10 s.data.toList (k + 1) = true) := by
          show _ = _
          have h1 : isL s[k] = true := by rw [← HL.out]; simp [ltI, l1, l2]
          rw [HS.out, h1, isL_ok h1]
          simp
        clear HS HL HO hpre
        go_wp2
        exact ⟨⟨k + 1, by omega, by go_num, trivial, HG.out⟩, by simp [intOf]; omega⟩
      · have hnl : isL s[k] = false := by rw [← HL.out]; simp [ltI]; omega
        by_cases h0 : k = 0
        · subst h0
          have HG : Hid (nameV s.data.toList = false) := HF.out 1 (by omega) (by
            have := HS.out
            rw [if_pos rfl, hnl] at this
            exact this)
          clear HS HL HO hpre hnl
          by_cases hlo : x < 97
          · go_wp2
            go_ret
            rw [HG.out]
            exact ⟨rfl, rfl⟩
          · have hhi : 122 < x := by omega
            have hlo' : 97 ≤ x := by omega
            have q1 : decide (x ≤ 122) = false := by simp; omega
            go_wp2
            go_ret
            rw [HG.out]
            exact ⟨rfl, rfl⟩
        · have h0' : ¬ (k : Int) = 0 := by omega
          have q5 : ((k : Int) == 0) = false := by simp; omega
          have hs2 : pre10 s.data.toList (k + 1) = okC s[k] := by rw [HS.out, if_neg h0]
          by_cases hok : (48 ≤ x ∧ x ≤ 57) ∨ x = 95 ∨ x = 46
          · have HG : Hid (pre10 s.data.toList (k + 1) = true) := by
              show _ = _
              rw [hs2, ← HO.out]
              simp [okI]
              omega
            clear HS HL HO hpre hnl hs2
            have hlo : x < 97 := by omega
            rcases hok with ⟨d1, d2⟩ | rfl | rfl
            · go_wp2
              exact ⟨⟨k + 1, by omega, by go_num, trivial, HG.out⟩, by simp [intOf]; omega⟩
            · go_wp2
              exact ⟨⟨k + 1, by omega, by go_num, trivial, HG.out⟩, by simp [intOf]; omega⟩
            · go_wp2
              exact ⟨⟨k + 1, by omega, by go_num, trivial, HG.out⟩, by simp [intOf]; omega⟩
          · have HG : Hid (nameV s.data.toList = false) := HF.out (k + 1) (by omega) (by
              rw [hs2, ← HO.out]
              simp [okI, ltI]
              omega)
            have n1 : ¬ x = 95 := by omega
            have n2 : ¬ x = 46 := by omega
            have q3 : (x != 95) = true := by simp [n1]
            have q4 : (x != 46) = true := by simp [n2]
            clear HS HL HO hpre hnl hs2
            by_cases hlo : x < 97
            · by_cases hd : x < 48
              · go_wp2
                go_ret
                rw [HG.out]
                exact ⟨rfl, rfl⟩
              · have hd1 : 48 ≤ x := by omega
                have hd2 : 57 < x := by omega
                have q2 : decide (x ≤ 57) = false := by simp; omega
                go_wp2
                go_ret
                rw [HG.out]
                exact ⟨rfl, rfl⟩
            · have hhi : 122 < x := by omega
              have hlo' : 97 ≤ x := by omega
              have hd1 : 48 ≤ x := by omega
              have hd2 : 57 < x := by omega
              have q1 : decide (x ≤ 122) = false := by simp; omega
              have q2 : decide (x ≤ 57) = false := by simp; omega
              go_wp2
              go_ret
              rw [HG.out]
              exact ⟨rfl, rfl⟩
    · obtain rfl : k = s.size := by omega
      go_wp2_with (go_at_call 31; refine (in_doc _ _ _ _).mono ?_; rintro e w' ⟨rfl, rfl⟩)
      go_ret
      rw [← HN.out, hpre.out]
      exact ⟨rfl, rfl⟩
end Go.Proofs.YtjjjdplgdlaihaaGreatDoor
