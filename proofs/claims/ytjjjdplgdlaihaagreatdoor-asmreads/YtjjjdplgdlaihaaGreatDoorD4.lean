/- The document's PrintInst, walked. -/
import Derived.Test.YtjjjdplgdlaihaaGreatDoorMH
import Derived.Test.YtjjjdplgdlaihaaGreatDoorMJ
import Derived.Lib.OthersKept
namespace Go.Proofs.YtjjjdplgdlaihaaGreatDoor
set_option linter.unusedVariables false
set_option linter.unusedSimpArgs false
open Go Go.RowKit

abbrev FormNm (o : Int) (nm : ByteArray) : Prop := ∀ w, Calls Tryz.prog 32 #[.int .i64 o] w fun e w' => (∃ kc l m h, e = .returned (.tuple #[formV kc l m h nm, .bool true])) ∧ Below w.heap.size w w'
abbrev ShapeIs (o : Int) (hs : ByteArray) : Prop := ∀ w, Calls Tryz.prog 33 #[.int .i64 o] w fun e w' => e = .returned (.string hs) ∧ Below w.heap.size w w'
theorem ba_app (a b : ByteArray) : (a ++ b).data.toList = a.data.toList ++ b.data.toList := by simp
/-- The document's letters, and asm's own. -/
def shB (k : UInt8) : UInt8 := if k = 40 then 109 else if k = 58 then 116 else k

set_option maxRecDepth 100000 in
set_option maxHeartbeats 8000000 in
theorem printdoc_core (o d a b n : Int) (nm hs : ByteArray) (w : World) (he : Env w) (hn0 : -9223372036854775808 ≤ n) (hn1 : n ≤ 9223372036854775807) (hd : 0 ≤ d ∧ d < 32) (ha : 0 ≤ a ∧ a < 32) (hb : 0 ≤ b ∧ b < 32)
    (hR : ∀ w, Calls Tryz.prog 23 #[instV o d a b n] w fun e w' => e = .returned (.bool true) ∧ Below w.heap.size w w') (hF : FormNm o nm) (hS : ShapeIs o hs) (hfit : Fits ⟨o, d, a, b, n, []⟩) (hnm : nm.size ≤ 10) (hhs : hs.size ≤ 3) (ks : By) (hks : hs.data.toList = ks.map shB) (hk : ∀ k ∈ ks, kindOk k = true) :
    Calls Tryz.prog 11 #[instV o d a b n] w fun e w' => e = .returned (.tuple #[str (nm.data.toList ++ prParts ⟨o, d, a, b, n, []⟩ ks true), .int .i64 0]) ∧ Below w.heap.size w w' := by
  have HE : Hid (Env w) := he
  clear he
  go_enter Tryz.func11, Tryz.ntmps11
  go_wp2_with (go_at_call 23; fail)
  refine (hR _).mono ?_
  rintro e w0 ⟨rfl, hb0⟩
  have hb0' : Below (w.heap.size + 1) (w.alloc (.cells #[.int .i64 o, .int .i64 d, .int .i64 a, .int .i64 b, .int .i64 n] 39)) w0 := hb0.mono (by simp)
  have hsz0 := hb0'.size
  simp at hsz0
  have G : w0.heap[w.heap.size]? = some (.cells #[.int .i64 o, .int .i64 d, .int .i64 a, .int .i64 b, .int .i64 n] 39) := by
    rw [hb0'.block _ (by simp)]; exact heap_alloc_last w _
  have c0 : w0.cell? ⟨w.heap.size, 0, none⟩ = some (.int .i64 o) := by rw [cell_of_row _ _ _ _ _ _ G]; rfl
  have HB0 : Hid (Below w.heap.size w w0) := ((Below.refl _ _).alloc (Nat.le_refl _) _).trans (hb0'.mono (by omega))
  have HG : Hid (w0.heap[w.heap.size]? = some (.cells #[.int .i64 o, .int .i64 d, .int .i64 a, .int .i64 b, .int .i64 n] 39)) := G
  clear hb0 hb0' G
  go_wp2_with (go_at_call 32; fail)
  refine (hF _).mono ?_
  rintro e w1 ⟨⟨kc, l, m, h, rfl⟩, hb⟩
  go_wp2_with (
    (refine wpList_store_row rfl 80 _ _ rfl _ 80 _ _ rfl rfl (heap_alloc_last _ _) (by kernel_rfl) rfl (one45 _ _ _ _ _) ?_
     obtain ⟨w2, hw2⟩ : ∃ w2, w2 = (w1.alloc (.cells zero45 80)).setRow w1.heap.size #[Value.int .u8 kc, .int .u32 l, .int .u32 m, .int .u32 h, .string nm] := ⟨_, rfl⟩
     rw [← hw2]
     have hsz := hb.size
     have hb2 : Below w0.heap.size w0 w2 := by
       rw [hw2]; exact below_setRow (hb.alloc (by omega) _) (by omega) _
     have G1 : w2.heap[w1.heap.size]? = some (.cells #[Value.int .u8 kc, .int .u32 l, .int .u32 m, .int .u32 h, .string nm] 80) := by
       rw [hw2]; exact setRow_heap _ _ _ _ _ _ (heap_alloc_last _ _)
     have G0 : w2.heap[w.heap.size]? = some (.cells #[.int .i64 o, .int .i64 d, .int .i64 a, .int .i64 b, .int .i64 n] 39) := by
       rw [hb2.block _ (by omega)]; exact HG.out
     have HB : Hid (Below w.heap.size w w2) := HB0.out.trans (hb2.mono (by omega))
     clear hb2 hb hw2
     have p4 : w2.cell? ⟨w1.heap.size, 4, none⟩ = some (.string nm) := by rw [cell_of_row _ _ _ _ _ _ G1]; rfl
     have q0 : w2.cell? ⟨w.heap.size, 0, none⟩ = some (.int .i64 o) := by rw [cell_of_row _ _ _ _ _ _ G0]; rfl
     have HG0 : Hid (w2.heap[w.heap.size]? = some (.cells #[.int .i64 o, .int .i64 d, .int .i64 a, .int .i64 b, .int .i64 n] 39)) := G0
     clear G0 G1))
  refine (hS _).mono ?_
  rintro e w3 ⟨rfl, hb3⟩
  have HX3 : Hid (w3.heap[w.heap.size]? = some (.cells #[.int .i64 o, .int .i64 d, .int .i64 a, .int .i64 b, .int .i64 n] 39)) := by
    show _ = _
    rw [hb3.block _ (Array.getElem?_eq_some_iff.mp HG0.out).1]; exact HG0.out
  have HB3 : Hid (Below w.heap.size w w3) := HB.out.trans (hb3.mono (Nat.le_of_lt (Array.getElem?_eq_some_iff.mp HG0.out).1))
  have HL3 : Hid (w.heap.size < w3.heap.size) := (Array.getElem?_eq_some_iff.mp HX3.out).1
  clear hb3 q0 p4 HG0 HB HB0 HG hsz0 hsz c0
  have HFm : Hid (∀ w', Env w' → Calls Tryz.prog 34 #[.int .i64 n, .int .i64 10] w' fun e w'' => e = .returned (.string ⟨(Lib.itoa n).toArray⟩) ∧ Below w'.heap.size w' w'') := fun w' hw' =>
    (Tryz.strconv_FormatInt_10 n hn0 hn1 w' hw'.pow).mono fun e w'' ⟨a, k, os, b⟩ => ⟨a, by rw [b]; exact Lib.below_grow _ _ (Nat.le_refl _) _ _⟩
  have HIt : Hid (∀ (r : Int) (w' : World), 0 ≤ r → r < 32 → Calls Tryz.prog 35 #[.int .i64 r] w' fun e w'' => e = .returned (.string ⟨(Lib.itoa r).toArray⟩) ∧ w'' = w') := fun r w' h0 h1 => by
    obtain ⟨k, rfl⟩ := Int.eq_ofNat_of_zero_le h0
    have := Tryz.strconv_Itoa_small k (by omega) w'
    rw [dec_itoa] at this
    exact this
  have HKS : Hid (hs.data.toList = ks.map shB) := hks
  have hlen : hs.size = ks.length := by
    have : hs.data.toList.length = hs.size := by simp
    rw [← this, hks]; simp
  clear hks hR hF hS hn0 hn1
  have HFit : Hid (Fits ⟨o, d, a, b, n, []⟩) := hfit
  generalize hnb : (⟨(Lib.itoa n).toArray⟩ : ByteArray) = nb at *
  have HNB : Hid (nb.data.toList = Lib.itoa n) := by show _ = _; rw [← hnb]
  have hnb2 : nb.size ≤ 50 := by
    have h1 := part_len ⟨o, d, a, b, n, []⟩ HFit.out 110
    have h2 : prPart ⟨o, d, a, b, n, []⟩ 110 = Lib.itoa n := rfl
    have h3 : nb.size = nb.data.toList.length := by simp
    rw [h3, HNB.out, ← h2]; exact h1
  clear hnb hfit
  go_wp2_with fail
  go_loopw [6] (fun z wr => ∃ (k : Nat) (y : ByteArray), k ≤ hs.size ∧ z = .string y ∧ Hid (y.data.toList = nm.data.toList ++ prParts ⟨o, d, a, b, n, []⟩ (ks.take k) true) ∧ Hid (wr.heap[w3.heap.size]? = some (.stringIter hs k)) ∧ Hid (wr.heap[w.heap.size]? = some (.cells #[.int .i64 o, .int .i64 d, .int .i64 a, .int .i64 b, .int .i64 n] 39)) ∧ Hid (Below w.heap.size w wr)) (fun _ wr => hs.size - wr.iterPos w3.heap.size)
  case atStart =>
    refine ⟨0, _, Nat.zero_le _, rfl, by show _ = _; simp [prParts], World.iter_heap _ _ _, ?_, HB3.out.alloc (Nat.le_of_lt HL3.out) _⟩
    exact (((Below.refl w3.heap.size w3).alloc (Nat.le_refl _) (.stringIter hs 0)).block _ HL3.out).trans HX3.out
  case round =>
    obtain ⟨k, y, hkk, rfl, HY, HI, HX, HBr⟩ := hrel
    by_cases hi : k < hs.size
    · have hkl : k < ks.length := by omega
      have hc : hs[k] = shB ks[k] := by
        have h1 : hs.data.toList[k]'(by simpa using hi) = hs[k] := rfl
        rw [← h1]
        have h2 := HKS.out
        rw [List.getElem_of_eq h2]
        simp
      have hko := hk ks[k] (List.getElem_mem hkl)
      have HT : Hid (prParts ⟨o, d, a, b, n, []⟩ (ks.take (k + 1)) true = prParts ⟨o, d, a, b, n, []⟩ (ks.take k) true ++ sepB k :: prPart ⟨o, d, a, b, n, []⟩ ks[k]) := by
        show _ = _
        have h1 := pr_take ⟨o, d, a, b, n, []⟩ ⟨ks.toArray⟩ k (by simpa [ByteArray.size] using hkl)
        exact h1
      have hca : hs[k].toNat < 128 := by
        rw [hc]
        simp only [kindOk, Bool.or_eq_true, beq_iff_eq] at hko
        rcases hko with ((((h | h) | h) | h) | h) | h <;> rw [h] <;> decide
      have hnx := fun ty => Lib.run_next_ascii_at (P := Tryz.prog) wr w3.heap.size hs k ty HI.out hi hca
      have HI4 : Hid ((wr.iterAt w3.heap.size hs (k + 1)).heap[w3.heap.size]? = some (.stringIter hs (k + 1))) := Lib.iterAt_heap _ _ _ _ _ HI.out
      have HX4 : Hid ((wr.iterAt w3.heap.size hs (k + 1)).heap[w.heap.size]? = some (.cells #[.int .i64 o, .int .i64 d, .int .i64 a, .int .i64 b, .int .i64 n] 39)) := by
        show _ = _
        have hne : w3.heap.size ≠ w.heap.size := Nat.ne_of_gt HL3.out
        simp only [World.iterAt, Array.getElem?_setIfInBounds_ne hne]
        exact HX.out
      have HB4 : Hid (Below w.heap.size w (wr.iterAt w3.heap.size hs (k + 1))) := by
        refine HBr.out.trans ⟨rfl, rfl, rfl, by simp [World.iterAt], fun j hj => ?_⟩
        have hne : w3.heap.size ≠ j := by have := HL3.out; omega
        simp only [World.iterAt, Array.getElem?_setIfInBounds_ne hne]
      have hw4 : ∃ w4, w4 = wr.iterAt w3.heap.size hs (k + 1) := ⟨_, rfl⟩
      obtain ⟨w4, hw4⟩ := hw4
      rw [← hw4] at hnx HI4 HX4 HB4
      rw [hc] at hnx
      clear hca hc hw4
      have hy : y.size ≤ 200 := by
        have h1 := parts_len ⟨o, d, a, b, n, []⟩ HFit.out (ks.take k) true
        have h2 : y.size = y.data.toList.length := by simp
        have h3 : nm.data.toList.length = nm.size := by simp
        rw [h2, HY.out, List.length_append, h3]
        have h4 : (ks.take k).length ≤ 3 := by rw [List.length_take]; omega
        omega
      have r4 : w4.cell? ⟨w.heap.size, 4, none⟩ = some (.int .i64 n) := by rw [cell_of_row _ _ _ _ _ _ HX4.out]; rfl
      have HF4 : Hid (Calls Tryz.prog 34 #[.int .i64 n, .int .i64 10] w4 fun e w'' => e = .returned (.string nb) ∧ Below w4.heap.size w4 w'') := HFm.out w4 (HE.out.below HB4.out)
      have HIt4 : Hid (∀ (r : Int) (w' : World), 0 ≤ r → r < 32 → Calls Tryz.prog 35 #[.int .i64 r] w' fun e w'' => e = .returned (.string ⟨(Lib.itoa r).toArray⟩) ∧ w'' = w') := HIt
      clear HFm HIt
      simp only [kindOk, Bool.or_eq_true, beq_iff_eq] at hko
      have HM : Hid (∀ w5, Below w4.heap.size w4 w5 → w5.heap[w3.heap.size]? = some (.stringIter hs (k + 1)) ∧ w5.heap[w.heap.size]? = some (.cells #[.int .i64 o, .int .i64 d, .int .i64 a, .int .i64 b, .int .i64 n] 39) ∧ Below w.heap.size w w5) := fun w5 h5 =>
        ⟨(h5.block _ (Array.getElem?_eq_some_iff.1 HI4.out).1).trans HI4.out, (h5.block _ (Array.getElem?_eq_some_iff.1 HX4.out).1).trans HX4.out, HB4.out.trans (h5.mono (Nat.le_of_lt (Array.getElem?_eq_some_iff.1 HX4.out).1))⟩
      rcases hko with ((((hl | hl) | hl) | hl) | hl) | hl
      · have e1 : ((shB ks[k]).toNat : Int) = 100 := by rw [hl]; rfl
        have HP : Hid (prPart ⟨o, d, a, b, n, []⟩ ks[k] = 120 :: Lib.itoa d) := by show _ = _; rw [hl]; rfl
        have HIT : Hid (∀ w', Calls Tryz.prog 35 #[.int .i64 d] w' fun e w'' => e = .returned (.string ⟨(Lib.itoa d).toArray⟩) ∧ w'' = w') := fun w' => HIt4.out d w' hd.1 hd.2
        rw [e1] at hnx
        clear e1 hl HIt4
        have hib2 : (⟨(Lib.itoa d).toArray⟩ : ByteArray).size ≤ 50 := by
          have h1 := part_len ⟨o, d, a, b, n, []⟩ HFit.out 100
          have h2 : prPart ⟨o, d, a, b, n, []⟩ 100 = 120 :: Lib.itoa d := rfl
          rw [h2, List.length_cons] at h1
          have h3 : (⟨(Lib.itoa d).toArray⟩ : ByteArray).size = (Lib.itoa d).length := by simp [ByteArray.size]
          omega
        generalize hib : (⟨(Lib.itoa d).toArray⟩ : ByteArray) = ib at *
        have HIB : Hid (ib.data.toList = Lib.itoa d) := by show _ = _; rw [← hib]
        clear hib
        rcases Nat.eq_zero_or_pos k with hk0 | hk0
        · have hz : ((k : Int) == 0) = true := by subst hk0; rfl
          have HZ : Hid (sepB k = 32) := by subst hk0; rfl
          clear hk0
          go_wp2_with (first
            | (go_at_call 34; refine HF4.out.mono ?_; rintro e w5 ⟨rfl, hb5⟩; obtain ⟨HI5, HX5, HB5⟩ := HM.out w5 hb5; have r1 : w5.cell? ⟨w.heap.size, 1, none⟩ = some (.int .i64 d) := (by rw [cell_of_row _ _ _ _ _ _ HX5]; rfl); clear hb5; have HI5' : Hid (w5.heap[w3.heap.size]? = some (.stringIter hs (k + 1))) := HI5; have HX5' : Hid (w5.heap[w.heap.size]? = some (.cells #[.int .i64 o, .int .i64 d, .int .i64 a, .int .i64 b, .int .i64 n] 39)) := HX5; have HB5' : Hid (Below w.heap.size w w5) := HB5; clear HI5 HX5 HB5)
            | (go_at_call 35; refine (HIT.out _).mono ?_; rintro e w5 ⟨rfl, rfl⟩))
          refine ⟨⟨k + 1, _, by omega, rfl, ?_, HI5', HX5', HB5'⟩, ?_⟩
          · show _ = _
            rw [HT.out, HP.out, HZ.out, ← List.append_assoc, ← HY.out, ← HIB.out]
            simp [ba_app]
          · simp only [World.iterPos, HI5'.out, HI.out]
            omega
        · have hz : ((k : Int) == 0) = false := by simp; omega
          have HZ : Hid (sepB k = 44) := by show _ = _; unfold sepB; rw [if_neg (by omega)]
          clear hk0
          go_wp2_with (first
            | (go_at_call 34; refine HF4.out.mono ?_; rintro e w5 ⟨rfl, hb5⟩; obtain ⟨HI5, HX5, HB5⟩ := HM.out w5 hb5; have r1 : w5.cell? ⟨w.heap.size, 1, none⟩ = some (.int .i64 d) := (by rw [cell_of_row _ _ _ _ _ _ HX5]; rfl); clear hb5; have HI5' : Hid (w5.heap[w3.heap.size]? = some (.stringIter hs (k + 1))) := HI5; have HX5' : Hid (w5.heap[w.heap.size]? = some (.cells #[.int .i64 o, .int .i64 d, .int .i64 a, .int .i64 b, .int .i64 n] 39)) := HX5; have HB5' : Hid (Below w.heap.size w w5) := HB5; clear HI5 HX5 HB5)
            | (go_at_call 35; refine (HIT.out _).mono ?_; rintro e w5 ⟨rfl, rfl⟩))
          refine ⟨⟨k + 1, _, by omega, rfl, ?_, HI5', HX5', HB5'⟩, ?_⟩
          · show _ = _
            rw [HT.out, HP.out, HZ.out, ← List.append_assoc, ← HY.out, ← HIB.out]
            simp [ba_app]
          · simp only [World.iterPos, HI5'.out, HI.out]
            omega
      · have e1 : ((shB ks[k]).toNat : Int) = 97 := by rw [hl]; rfl
        have HP : Hid (prPart ⟨o, d, a, b, n, []⟩ ks[k] = 120 :: Lib.itoa a) := by show _ = _; rw [hl]; rfl
        have HIT : Hid (∀ w', Calls Tryz.prog 35 #[.int .i64 a] w' fun e w'' => e = .returned (.string ⟨(Lib.itoa a).toArray⟩) ∧ w'' = w') := fun w' => HIt4.out a w' ha.1 ha.2
        rw [e1] at hnx
        clear e1 hl HIt4
        have hib2 : (⟨(Lib.itoa a).toArray⟩ : ByteArray).size ≤ 50 := by
          have h1 := part_len ⟨o, d, a, b, n, []⟩ HFit.out 97
          have h2 : prPart ⟨o, d, a, b, n, []⟩ 97 = 120 :: Lib.itoa a := rfl
          rw [h2, List.length_cons] at h1
          have h3 : (⟨(Lib.itoa a).toArray⟩ : ByteArray).size = (Lib.itoa a).length := by simp [ByteArray.size]
          omega
        generalize hib : (⟨(Lib.itoa a).toArray⟩ : ByteArray) = ib at *
        have HIB : Hid (ib.data.toList = Lib.itoa a) := by show _ = _; rw [← hib]
        clear hib
        rcases Nat.eq_zero_or_pos k with hk0 | hk0
        · have hz : ((k : Int) == 0) = true := by subst hk0; rfl
          have HZ : Hid (sepB k = 32) := by subst hk0; rfl
          clear hk0
          go_wp2_with (first
            | (go_at_call 34; refine HF4.out.mono ?_; rintro e w5 ⟨rfl, hb5⟩; obtain ⟨HI5, HX5, HB5⟩ := HM.out w5 hb5; have r1 : w5.cell? ⟨w.heap.size, 2, none⟩ = some (.int .i64 a) := (by rw [cell_of_row _ _ _ _ _ _ HX5]; rfl); clear hb5; have HI5' : Hid (w5.heap[w3.heap.size]? = some (.stringIter hs (k + 1))) := HI5; have HX5' : Hid (w5.heap[w.heap.size]? = some (.cells #[.int .i64 o, .int .i64 d, .int .i64 a, .int .i64 b, .int .i64 n] 39)) := HX5; have HB5' : Hid (Below w.heap.size w w5) := HB5; clear HI5 HX5 HB5)
            | (go_at_call 35; refine (HIT.out _).mono ?_; rintro e w5 ⟨rfl, rfl⟩))
          refine ⟨⟨k + 1, _, by omega, rfl, ?_, HI5', HX5', HB5'⟩, ?_⟩
          · show _ = _
            rw [HT.out, HP.out, HZ.out, ← List.append_assoc, ← HY.out, ← HIB.out]
            simp [ba_app]
          · simp only [World.iterPos, HI5'.out, HI.out]
            omega
        · have hz : ((k : Int) == 0) = false := by simp; omega
          have HZ : Hid (sepB k = 44) := by show _ = _; unfold sepB; rw [if_neg (by omega)]
          clear hk0
          go_wp2_with (first
            | (go_at_call 34; refine HF4.out.mono ?_; rintro e w5 ⟨rfl, hb5⟩; obtain ⟨HI5, HX5, HB5⟩ := HM.out w5 hb5; have r1 : w5.cell? ⟨w.heap.size, 2, none⟩ = some (.int .i64 a) := (by rw [cell_of_row _ _ _ _ _ _ HX5]; rfl); clear hb5; have HI5' : Hid (w5.heap[w3.heap.size]? = some (.stringIter hs (k + 1))) := HI5; have HX5' : Hid (w5.heap[w.heap.size]? = some (.cells #[.int .i64 o, .int .i64 d, .int .i64 a, .int .i64 b, .int .i64 n] 39)) := HX5; have HB5' : Hid (Below w.heap.size w w5) := HB5; clear HI5 HX5 HB5)
            | (go_at_call 35; refine (HIT.out _).mono ?_; rintro e w5 ⟨rfl, rfl⟩))
          refine ⟨⟨k + 1, _, by omega, rfl, ?_, HI5', HX5', HB5'⟩, ?_⟩
          · show _ = _
            rw [HT.out, HP.out, HZ.out, ← List.append_assoc, ← HY.out, ← HIB.out]
            simp [ba_app]
          · simp only [World.iterPos, HI5'.out, HI.out]
            omega
      · have e1 : ((shB ks[k]).toNat : Int) = 98 := by rw [hl]; rfl
        have HP : Hid (prPart ⟨o, d, a, b, n, []⟩ ks[k] = 120 :: Lib.itoa b) := by show _ = _; rw [hl]; rfl
        have HIT : Hid (∀ w', Calls Tryz.prog 35 #[.int .i64 b] w' fun e w'' => e = .returned (.string ⟨(Lib.itoa b).toArray⟩) ∧ w'' = w') := fun w' => HIt4.out b w' hb.1 hb.2
        rw [e1] at hnx
        clear e1 hl HIt4
        have hib2 : (⟨(Lib.itoa b).toArray⟩ : ByteArray).size ≤ 50 := by
          have h1 := part_len ⟨o, d, a, b, n, []⟩ HFit.out 98
          have h2 : prPart ⟨o, d, a, b, n, []⟩ 98 = 120 :: Lib.itoa b := rfl
          rw [h2, List.length_cons] at h1
          have h3 : (⟨(Lib.itoa b).toArray⟩ : ByteArray).size = (Lib.itoa b).length := by simp [ByteArray.size]
          omega
        generalize hib : (⟨(Lib.itoa b).toArray⟩ : ByteArray) = ib at *
        have HIB : Hid (ib.data.toList = Lib.itoa b) := by show _ = _; rw [← hib]
        clear hib
        rcases Nat.eq_zero_or_pos k with hk0 | hk0
        · have hz : ((k : Int) == 0) = true := by subst hk0; rfl
          have HZ : Hid (sepB k = 32) := by subst hk0; rfl
          clear hk0
          go_wp2_with (first
            | (go_at_call 34; refine HF4.out.mono ?_; rintro e w5 ⟨rfl, hb5⟩; obtain ⟨HI5, HX5, HB5⟩ := HM.out w5 hb5; have r1 : w5.cell? ⟨w.heap.size, 3, none⟩ = some (.int .i64 b) := (by rw [cell_of_row _ _ _ _ _ _ HX5]; rfl); clear hb5; have HI5' : Hid (w5.heap[w3.heap.size]? = some (.stringIter hs (k + 1))) := HI5; have HX5' : Hid (w5.heap[w.heap.size]? = some (.cells #[.int .i64 o, .int .i64 d, .int .i64 a, .int .i64 b, .int .i64 n] 39)) := HX5; have HB5' : Hid (Below w.heap.size w w5) := HB5; clear HI5 HX5 HB5)
            | (go_at_call 35; refine (HIT.out _).mono ?_; rintro e w5 ⟨rfl, rfl⟩))
          refine ⟨⟨k + 1, _, by omega, rfl, ?_, HI5', HX5', HB5'⟩, ?_⟩
          · show _ = _
            rw [HT.out, HP.out, HZ.out, ← List.append_assoc, ← HY.out, ← HIB.out]
            simp [ba_app]
          · simp only [World.iterPos, HI5'.out, HI.out]
            omega
        · have hz : ((k : Int) == 0) = false := by simp; omega
          have HZ : Hid (sepB k = 44) := by show _ = _; unfold sepB; rw [if_neg (by omega)]
          clear hk0
          go_wp2_with (first
            | (go_at_call 34; refine HF4.out.mono ?_; rintro e w5 ⟨rfl, hb5⟩; obtain ⟨HI5, HX5, HB5⟩ := HM.out w5 hb5; have r1 : w5.cell? ⟨w.heap.size, 3, none⟩ = some (.int .i64 b) := (by rw [cell_of_row _ _ _ _ _ _ HX5]; rfl); clear hb5; have HI5' : Hid (w5.heap[w3.heap.size]? = some (.stringIter hs (k + 1))) := HI5; have HX5' : Hid (w5.heap[w.heap.size]? = some (.cells #[.int .i64 o, .int .i64 d, .int .i64 a, .int .i64 b, .int .i64 n] 39)) := HX5; have HB5' : Hid (Below w.heap.size w w5) := HB5; clear HI5 HX5 HB5)
            | (go_at_call 35; refine (HIT.out _).mono ?_; rintro e w5 ⟨rfl, rfl⟩))
          refine ⟨⟨k + 1, _, by omega, rfl, ?_, HI5', HX5', HB5'⟩, ?_⟩
          · show _ = _
            rw [HT.out, HP.out, HZ.out, ← List.append_assoc, ← HY.out, ← HIB.out]
            simp [ba_app]
          · simp only [World.iterPos, HI5'.out, HI.out]
            omega
      · have e1 : ((shB ks[k]).toNat : Int) = 109 := by rw [hl]; rfl
        have HP : Hid (prPart ⟨o, d, a, b, n, []⟩ ks[k] = Lib.itoa n ++ [40, 120] ++ Lib.itoa a ++ [41]) := by show _ = _; rw [hl]; rfl
        have HIT : Hid (∀ w', Calls Tryz.prog 35 #[.int .i64 a] w' fun e w'' => e = .returned (.string ⟨(Lib.itoa a).toArray⟩) ∧ w'' = w') := fun w' => HIt4.out a w' ha.1 ha.2
        rw [e1] at hnx
        clear e1 hl HIt4
        have hib2 : (⟨(Lib.itoa a).toArray⟩ : ByteArray).size ≤ 50 := by
          have h1 := part_len ⟨o, d, a, b, n, []⟩ HFit.out 97
          have h2 : prPart ⟨o, d, a, b, n, []⟩ 97 = 120 :: Lib.itoa a := rfl
          rw [h2, List.length_cons] at h1
          have h3 : (⟨(Lib.itoa a).toArray⟩ : ByteArray).size = (Lib.itoa a).length := by simp [ByteArray.size]
          omega
        generalize hib : (⟨(Lib.itoa a).toArray⟩ : ByteArray) = ib at *
        have HIB : Hid (ib.data.toList = Lib.itoa a) := by show _ = _; rw [← hib]
        clear hib
        rcases Nat.eq_zero_or_pos k with hk0 | hk0
        · have hz : ((k : Int) == 0) = true := by subst hk0; rfl
          have HZ : Hid (sepB k = 32) := by subst hk0; rfl
          clear hk0
          go_wp2_with (first
            | (go_at_call 34; refine HF4.out.mono ?_; rintro e w5 ⟨rfl, hb5⟩; obtain ⟨HI5, HX5, HB5⟩ := HM.out w5 hb5; have r1 : w5.cell? ⟨w.heap.size, 2, none⟩ = some (.int .i64 a) := (by rw [cell_of_row _ _ _ _ _ _ HX5]; rfl); clear hb5; have HI5' : Hid (w5.heap[w3.heap.size]? = some (.stringIter hs (k + 1))) := HI5; have HX5' : Hid (w5.heap[w.heap.size]? = some (.cells #[.int .i64 o, .int .i64 d, .int .i64 a, .int .i64 b, .int .i64 n] 39)) := HX5; have HB5' : Hid (Below w.heap.size w w5) := HB5; clear HI5 HX5 HB5)
            | (go_at_call 35; refine (HIT.out _).mono ?_; rintro e w5 ⟨rfl, rfl⟩))
          refine ⟨⟨k + 1, _, by omega, rfl, ?_, HI5', HX5', HB5'⟩, ?_⟩
          · show _ = _
            rw [HT.out, HP.out, HZ.out, ← List.append_assoc, ← HY.out, ← HIB.out, ← HNB.out]
            simp [ba_app]
          · simp only [World.iterPos, HI5'.out, HI.out]
            omega
        · have hz : ((k : Int) == 0) = false := by simp; omega
          have HZ : Hid (sepB k = 44) := by show _ = _; unfold sepB; rw [if_neg (by omega)]
          clear hk0
          go_wp2_with (first
            | (go_at_call 34; refine HF4.out.mono ?_; rintro e w5 ⟨rfl, hb5⟩; obtain ⟨HI5, HX5, HB5⟩ := HM.out w5 hb5; have r1 : w5.cell? ⟨w.heap.size, 2, none⟩ = some (.int .i64 a) := (by rw [cell_of_row _ _ _ _ _ _ HX5]; rfl); clear hb5; have HI5' : Hid (w5.heap[w3.heap.size]? = some (.stringIter hs (k + 1))) := HI5; have HX5' : Hid (w5.heap[w.heap.size]? = some (.cells #[.int .i64 o, .int .i64 d, .int .i64 a, .int .i64 b, .int .i64 n] 39)) := HX5; have HB5' : Hid (Below w.heap.size w w5) := HB5; clear HI5 HX5 HB5)
            | (go_at_call 35; refine (HIT.out _).mono ?_; rintro e w5 ⟨rfl, rfl⟩))
          refine ⟨⟨k + 1, _, by omega, rfl, ?_, HI5', HX5', HB5'⟩, ?_⟩
          · show _ = _
            rw [HT.out, HP.out, HZ.out, ← List.append_assoc, ← HY.out, ← HIB.out, ← HNB.out]
            simp [ba_app]
          · simp only [World.iterPos, HI5'.out, HI.out]
            omega
      · have e1 : ((shB ks[k]).toNat : Int) = 116 := by rw [hl]; rfl
        have HP : Hid (prPart ⟨o, d, a, b, n, []⟩ ks[k] = Lib.itoa n) := by show _ = _; rw [hl]; rfl
        rw [e1] at hnx
        clear e1 hl HIt4
        rcases Nat.eq_zero_or_pos k with hk0 | hk0
        · have hz : ((k : Int) == 0) = true := by subst hk0; rfl
          have HZ : Hid (sepB k = 32) := by subst hk0; rfl
          clear hk0
          go_wp2_with (go_at_call 34; refine HF4.out.mono ?_; rintro e w5 ⟨rfl, hb5⟩; obtain ⟨HI5, HX5, HB5⟩ := HM.out w5 hb5; clear hb5; have HI5' : Hid (w5.heap[w3.heap.size]? = some (.stringIter hs (k + 1))) := HI5; have HX5' : Hid (w5.heap[w.heap.size]? = some (.cells #[.int .i64 o, .int .i64 d, .int .i64 a, .int .i64 b, .int .i64 n] 39)) := HX5; have HB5' : Hid (Below w.heap.size w w5) := HB5; clear HI5 HX5 HB5)
          refine ⟨⟨k + 1, _, by omega, rfl, ?_, HI5', HX5', HB5'⟩, ?_⟩
          · show _ = _
            rw [HT.out, HP.out, HZ.out, ← List.append_assoc, ← HY.out, ← HNB.out]
            simp [ba_app]
          · simp only [World.iterPos, HI5'.out, HI.out]
            omega
        · have hz : ((k : Int) == 0) = false := by simp; omega
          have HZ : Hid (sepB k = 44) := by show _ = _; unfold sepB; rw [if_neg (by omega)]
          clear hk0
          go_wp2_with (go_at_call 34; refine HF4.out.mono ?_; rintro e w5 ⟨rfl, hb5⟩; obtain ⟨HI5, HX5, HB5⟩ := HM.out w5 hb5; clear hb5; have HI5' : Hid (w5.heap[w3.heap.size]? = some (.stringIter hs (k + 1))) := HI5; have HX5' : Hid (w5.heap[w.heap.size]? = some (.cells #[.int .i64 o, .int .i64 d, .int .i64 a, .int .i64 b, .int .i64 n] 39)) := HX5; have HB5' : Hid (Below w.heap.size w w5) := HB5; clear HI5 HX5 HB5)
          refine ⟨⟨k + 1, _, by omega, rfl, ?_, HI5', HX5', HB5'⟩, ?_⟩
          · show _ = _
            rw [HT.out, HP.out, HZ.out, ← List.append_assoc, ← HY.out, ← HNB.out]
            simp [ba_app]
          · simp only [World.iterPos, HI5'.out, HI.out]
            omega
      · have e1 : ((shB ks[k]).toNat : Int) = 110 := by rw [hl]; rfl
        have HP : Hid (prPart ⟨o, d, a, b, n, []⟩ ks[k] = Lib.itoa n) := by show _ = _; rw [hl]; rfl
        rw [e1] at hnx
        clear e1 hl HIt4
        rcases Nat.eq_zero_or_pos k with hk0 | hk0
        · have hz : ((k : Int) == 0) = true := by subst hk0; rfl
          have HZ : Hid (sepB k = 32) := by subst hk0; rfl
          clear hk0
          go_wp2_with (go_at_call 34; refine HF4.out.mono ?_; rintro e w5 ⟨rfl, hb5⟩; obtain ⟨HI5, HX5, HB5⟩ := HM.out w5 hb5; clear hb5; have HI5' : Hid (w5.heap[w3.heap.size]? = some (.stringIter hs (k + 1))) := HI5; have HX5' : Hid (w5.heap[w.heap.size]? = some (.cells #[.int .i64 o, .int .i64 d, .int .i64 a, .int .i64 b, .int .i64 n] 39)) := HX5; have HB5' : Hid (Below w.heap.size w w5) := HB5; clear HI5 HX5 HB5)
          refine ⟨⟨k + 1, _, by omega, rfl, ?_, HI5', HX5', HB5'⟩, ?_⟩
          · show _ = _
            rw [HT.out, HP.out, HZ.out, ← List.append_assoc, ← HY.out, ← HNB.out]
            simp [ba_app]
          · simp only [World.iterPos, HI5'.out, HI.out]
            omega
        · have hz : ((k : Int) == 0) = false := by simp; omega
          have HZ : Hid (sepB k = 44) := by show _ = _; unfold sepB; rw [if_neg (by omega)]
          clear hk0
          go_wp2_with (go_at_call 34; refine HF4.out.mono ?_; rintro e w5 ⟨rfl, hb5⟩; obtain ⟨HI5, HX5, HB5⟩ := HM.out w5 hb5; clear hb5; have HI5' : Hid (w5.heap[w3.heap.size]? = some (.stringIter hs (k + 1))) := HI5; have HX5' : Hid (w5.heap[w.heap.size]? = some (.cells #[.int .i64 o, .int .i64 d, .int .i64 a, .int .i64 b, .int .i64 n] 39)) := HX5; have HB5' : Hid (Below w.heap.size w w5) := HB5; clear HI5 HX5 HB5)
          refine ⟨⟨k + 1, _, by omega, rfl, ?_, HI5', HX5', HB5'⟩, ?_⟩
          · show _ = _
            rw [HT.out, HP.out, HZ.out, ← List.append_assoc, ← HY.out, ← HNB.out]
            simp [ba_app]
          · simp only [World.iterPos, HI5'.out, HI.out]
            omega
    · have hnx := fun ty => Lib.run_next_end_at (P := Tryz.prog) wr w3.heap.size hs k ty HI.out hi
      have HYY : Hid (y = ⟨(nm.data.toList ++ prParts ⟨o, d, a, b, n, []⟩ ks true).toArray⟩) := by
        refine ba_inj ?_
        rw [HY.out, List.take_of_length_le (by omega)]
      go_wp2
      go_ret2
      exact ⟨by rw [HYY.out]; rfl, HBr.out⟩
end Go.Proofs.YtjjjdplgdlaihaaGreatDoor
