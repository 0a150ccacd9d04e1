/- AsmBack, walked: its own roads. -/
import Derived.Test.YtjjjdplgdlaihaaGreatDoorU2
namespace Go.Proofs.YtjjjdplgdlaihaaGreatDoor
set_option linter.unusedVariables false
set_option linter.unusedSimpArgs false
open Go Go.RowKit

set_option maxRecDepth 100000 in
set_option maxHeartbeats 2000000 in
theorem back_long (w : World) (q1 q2 : Option Addr) (L M c1 c2 : Nat) (h : 30 < L ∨ 30 < M) :
    Calls Tryz.prog 4 #[.slice q1 L c1, .slice q2 M c2] w fun e w' => e = .returned (.bool true) ∧ Below w.heap.size w w' := by
  by_cases h1 : 30 < L
  · have h1' : (30 : Int) < L := by omega
    go_enter Tryz.func4, Tryz.ntmps4
    go_wp2
    go_ret
    exact ⟨rfl, Below.refl _ _⟩
  · have h1' : ¬ (30 : Int) < L := by omega
    have h2' : (30 : Int) < M := by omega
    go_enter Tryz.func4, Tryz.ntmps4
    go_wp2
    go_ret
    exact ⟨rfl, Below.refl _ _⟩

set_option maxRecDepth 100000 in
set_option maxHeartbeats 4000000 in
theorem back_part (w : World) (he : Env w) (hw : 11 ≤ w.heap.size) (q1 q2 : Option Addr) (L M c1 c2 : Nat) (hL : L ≤ 30) (hM : M ≤ 30) (S1 S2 : ByteArray) (b1 b2 : Bool) (hb : b1 = false ∨ b2 = false)
    (h1 : ∀ w1, Below w.heap.size w w1 → Calls Tryz.prog 17 #[.slice q1 L c1] w1 fun e w' => e = .returned (.tuple #[.string S1, .bool b1]) ∧ Below w1.heap.size w1 w')
    (h2 : ∀ w1, Below w.heap.size w w1 → Calls Tryz.prog 17 #[.slice q2 M c2] w1 fun e w' => e = .returned (.tuple #[.string S2, .bool b2]) ∧ Below w1.heap.size w1 w') :
    Calls Tryz.prog 4 #[.slice q1 L c1, .slice q2 M c2] w fun e w' => e = .returned (.bool true) ∧ Below w.heap.size w w' := by
  have hL' : ¬ (30 : Int) < L := by omega
  have hM' : ¬ (30 : Int) < M := by omega
  have HWr : Hid (Calls Tryz.prog 16 #[] w fun e w' => e = .returned (.bool true) ∧ Below w.heap.size w w') := written_any w he hw
  have H1 : Hid (∀ w1, Below w.heap.size w w1 → Calls Tryz.prog 17 #[.slice q1 L c1] w1 fun e w' => e = .returned (.tuple #[.string S1, .bool b1]) ∧ Below w1.heap.size w1 w') := h1
  have H2 : Hid (∀ w1, Below w.heap.size w w1 → Calls Tryz.prog 17 #[.slice q2 M c2] w1 fun e w' => e = .returned (.tuple #[.string S2, .bool b2]) ∧ Below w1.heap.size w1 w') := h2
  clear h1 h2 he
  go_enter Tryz.func4, Tryz.ntmps4
  go_wp2_with (first
    | (go_at_call 16; refine HWr.out.mono ?_; rintro e w1 ⟨rfl, hb1⟩; have HB1 : Hid (Below w.heap.size w w1) := hb1; clear hb1)
    | (go_at_call 17; fail))
  refine (H1.out _ HB1.out).mono ?_
  rintro e w2 ⟨rfl, hb2⟩
  have HB2 : Hid (Below w.heap.size w w2) := HB1.out.trans (hb2.mono HB1.out.size)
  clear hb2
  go_wp2_with (go_at_call 17; fail)
  refine (H2.out _ HB2.out).mono ?_
  rintro e w3 ⟨rfl, hb3⟩
  have HB3 : Hid (Below w.heap.size w w3) := HB2.out.trans (hb3.mono HB2.out.size)
  clear hb3
  cases b1 with
  | false =>
    go_wp2
    go_ret
    exact ⟨rfl, HB3.out⟩
  | true =>
    obtain rfl : b2 = false := by simpa using hb
    go_wp2
    go_ret
    exact ⟨rfl, HB3.out⟩

set_option maxRecDepth 100000 in
set_option maxHeartbeats 4000000 in
theorem back_yes (w : World) (he : Env w) (hw : 11 ≤ w.heap.size) (q1 q2 : Option Addr) (c1 c2 : Nat) (hc1 : q1 = none → c1 = 0) (hc2 : q2 = none → c2 = 0) (l m : List Dr) (hl : Sl w q1 l) (hm : Sl w q2 m) (hL : l.length ≤ 30) (hM : m.length ≤ 30)
    (hpl : ∀ d ∈ l, d.pl = []) (hpm : ∀ d ∈ m, d.pl = []) (hrl : ∀ d ∈ l, rtD d = true) (hrm : ∀ d ∈ m, rtD d = true)
    (h1 : ∀ w1, Below w.heap.size w w1 → Calls Tryz.prog 17 #[.slice q1 l.length c1] w1 fun e w' => e = .returned (.tuple #[.string ⟨(textV l).toArray⟩, .bool true]) ∧ (textV l).length ≤ 300 * l.length ∧ Below w1.heap.size w1 w')
    (h2 : ∀ w1, Below w.heap.size w w1 → Calls Tryz.prog 17 #[.slice q2 m.length c2] w1 fun e w' => e = .returned (.tuple #[.string ⟨(textV m).toArray⟩, .bool true]) ∧ (textV m).length ≤ 300 * m.length ∧ Below w1.heap.size w1 w') :
    Calls Tryz.prog 4 #[.slice q1 l.length c1, .slice q2 m.length c2] w fun e w' => e = .returned (.bool true) ∧ Below w.heap.size w w' := by
  have hl' : ¬ (30 : Int) < l.length := by omega
  have hm' : ¬ (30 : Int) < m.length := by omega
  have HWr : Hid (Calls Tryz.prog 16 #[] w fun e w' => e = .returned (.bool true) ∧ Below w.heap.size w w') := written_any w he hw
  obtain ⟨L, hLe⟩ : ∃ L, L = l.length := ⟨_, rfl⟩
  obtain ⟨M, hMe⟩ : ∃ M, M = m.length := ⟨_, rfl⟩
  obtain ⟨A, hA⟩ : ∃ A : ByteArray, A = ⟨(textV l).toArray⟩ := ⟨_, rfl⟩
  obtain ⟨B, hB⟩ : ∃ B : ByteArray, B = ⟨(textV m).toArray⟩ := ⟨_, rfl⟩
  obtain ⟨X, hX⟩ : ∃ X : ByteArray, X = ⟨(widen (textV l)).toArray⟩ := ⟨_, rfl⟩
  have hAs : A.size = (textV l).length := by rw [hA, str_size]
  have hBs : B.size = (textV m).length := by rw [hB, str_size]
  have hXs : X.size = (widen (textV l)).length := by rw [hX, str_size]
  have hwl := widen_len (textV l)
  have HE : Hid (∀ w', Below w.heap.size w w' → Env w') := fun w' hb => he.below hb
  have wl : ∀ d ∈ l, Wfd d := fun d hd => rt_wfd (hpl d hd) (hrl d hd)
  have wm : ∀ d ∈ m, Wfd d := fun d hd => rt_wfd (hpm d hd) (hrm d hd)
  have a1 : asmV rtD A.data.toList = .ok l := by rw [hA]; exact asm_text rtD l wl hrl hpl
  have a2 : asmV rtD ((⟨#[32, 32]⟩ : ByteArray) ++ X ++ B).data.toList = .ok (l ++ m) := by
    have e : ((⟨#[32, 32]⟩ : ByteArray) ++ X ++ B).data.toList = 32 :: 32 :: (widen (textV l) ++ textV m) := by rw [hX, hB]; simp
    rw [e]
    exact asm_two rtD l m (fun d hd => (List.mem_append.1 hd).elim (wl d) (wm d)) (fun d hd => (List.mem_append.1 hd).elim (hrl d) (hrm d)) (fun d hd => (List.mem_append.1 hd).elim (hpl d) (hpm d))
  have H1 : Hid (∀ w1, Below w.heap.size w w1 → Calls Tryz.prog 17 #[.slice q1 L c1] w1 fun e w' => e = .returned (.tuple #[.string A, .bool true]) ∧ A.size ≤ 9000 ∧ Below w1.heap.size w1 w') := fun w1 hb => by
    rw [hLe]
    exact (h1 w1 hb).mono fun e w' ⟨x, y, z⟩ => ⟨by rw [hA]; exact x, by omega, z⟩
  have H2 : Hid (∀ w1, Below w.heap.size w w1 → Calls Tryz.prog 17 #[.slice q2 M c2] w1 fun e w' => e = .returned (.tuple #[.string B, .bool true]) ∧ B.size ≤ 9000 ∧ Below w1.heap.size w1 w') := fun w1 hb => by
    rw [hMe]
    exact (h2 w1 hb).mono fun e w' ⟨x, y, z⟩ => ⟨by rw [hB]; exact x, by omega, z⟩
  have HA1 : Hid (A.size ≤ 9000 → ∀ w1, Below w.heap.size w w1 → Calls Tryz.prog 6 #[.string A] w1 fun e w' => ∃ q c, e = .returned (.tuple #[.slice q L c, .nilIface]) ∧ Sl w' q l ∧ Below w1.heap.size w1 w') := fun hz w1 hb => asm_back A w1 (he.below hb) (by have := hb.size; omega) (by omega) l a1 L hLe
  have HR : Hid (A.size ≤ 9000 → ∀ w1, Below w.heap.size w w1 → Calls Tryz.prog 19 #[.string A, .string ⟨#[10]⟩, .string ⟨#[32, 32, 10, 10]⟩] w1 fun e w' => e = .returned (.string X) ∧ X.size ≤ 40000 ∧ Below w1.heap.size w1 w') := fun hz w1 hb => by
    refine (replace_any A w1 (he.below hb) (by omega)).mono fun e w' ⟨x, y⟩ => ⟨?_, by omega, y⟩
    rw [hX]
    rw [hA] at x
    exact x
  have HA2 : Hid (X.size ≤ 40000 → B.size ≤ 9000 → ∀ w1, Below w.heap.size w w1 → Calls Tryz.prog 6 #[.string ((⟨#[32, 32]⟩ : ByteArray) ++ X ++ B)] w1 fun e w' => ∃ q c, e = .returned (.tuple #[.slice q (L + M) c, .nilIface]) ∧ Sl w' q (l ++ m) ∧ Below w1.heap.size w1 w') := fun hx hz w1 hb =>
    asm_back _ w1 (he.below hb) (by have := hb.size; omega) (by
      have e : (ByteArray.mk #[32, 32]).size = 2 := rfl
      rw [ByteArray.size_append, ByteArray.size_append, e]; omega) (l ++ m) a2 (L + M) (by rw [List.length_append, hLe, hMe])
  have HSl : Hid (∀ w', Below w.heap.size w w' → Sl w' q1 l) := fun w' hb => hl.below hb
  have HSm : Hid (∀ w', Below w.heap.size w w' → Sl w' q2 m) := fun w' hb => hm.below hb
  have HLe : Hid (L = l.length) := hLe
  have HMe : Hid (M = m.length) := hMe
  rw [← hLe] at hL hl' ⊢
  rw [← hMe] at hM hm' ⊢
  clear h1 h2 he hl hm hpl hpm hrl hrm hA hB hX hAs hBs hXs hwl wl wm a1 a2 hLe hMe
  go_enter Tryz.func4, Tryz.ntmps4
  go_wp2_with (first
    | (go_at_call 16; refine HWr.out.mono ?_; rintro e w1 ⟨rfl, hb1⟩; have HB1 : Hid (Below w.heap.size w w1) := hb1; clear hb1)
    | (go_at_call 17; fail))
  refine (H1.out _ HB1.out).mono ?_
  rintro e w2 ⟨rfl, hz1, hb2⟩
  have HB2 : Hid (Below w.heap.size w w2) := HB1.out.trans (hb2.mono HB1.out.size)
  clear hb2
  go_wp2_with (go_at_call 17; fail)
  refine (H2.out _ HB2.out).mono ?_
  rintro e w3 ⟨rfl, hz2, hb3⟩
  have HB3 : Hid (Below w.heap.size w w3) := HB2.out.trans (hb3.mono HB2.out.size)
  clear hb3
  go_wp2_with (go_at_call 6; fail)
  refine (HA1.out hz1 _ HB3.out).mono ?_
  rintro e w4 ⟨q4, c4, rfl, hS4, hb4⟩
  have HB4 : Hid (Below w.heap.size w w4) := HB3.out.trans (hb4.mono HB3.out.size)
  have HS4 : Hid (Sl w4 q4 l) := hS4
  clear hb4 hS4
  go_wp2_with (go_at_call 18; fail)
  refine (equal_yes w4 q4 q1 c4 c1 L l HLe.out (by omega) HS4.out (HSl.out _ HB4.out)).mono ?_
  rintro e w5 ⟨rfl, hb5⟩
  have HB5 : Hid (Below w.heap.size w w5) := HB4.out.trans (hb5.mono HB4.out.size)
  clear hb5
  go_wp2_with (go_at_call 19; fail)
  refine (HR.out hz1 _ HB5.out).mono ?_
  rintro e w6 ⟨rfl, hz3, hb6⟩
  have HB6 : Hid (Below w.heap.size w w6) := HB5.out.trans (hb6.mono HB5.out.size)
  clear hb6
  go_wp2_with (go_at_call 6; fail)
  refine (HA2.out hz3 hz2 _ HB6.out).mono ?_
  rintro e w7 ⟨q7, c7, rfl, hS7, hb7⟩
  have HB7 : Hid (Below w.heap.size w w7) := HB6.out.trans (hb7.mono HB6.out.size)
  have HS7 : Hid (Sl w7 q7 (l ++ m)) := hS7
  clear hb7 hS7
  obtain ⟨i0, hi0, hz0, hz1, hz2⟩ := info_parts info30
  obtain ⟨g1, p1, e1, f1⟩ := HSl.out w7 HB7.out
  obtain ⟨g2, p2, e2, f2⟩ := HSm.out w7 HB7.out
  rw [← HLe.out] at e1
  rw [← HMe.out] at e2
  have lt1 : ∀ i d, l[i]? = some d → g1 < w7.heap.size := fun i d hd => World.block_lt_of_cell? w7 _ (f1 i d hd).c0
  have lt2 : ∀ i d, m[i]? = some d → g2 < w7.heap.size := fun i d hd => World.block_lt_of_cell? w7 _ (f2 i d hd).c0
  have F1 : Hid (∀ w', Below w7.heap.size w7 w' → ∀ (i : Nat) (d : Dr), l[i]? = some d → Five w' g1 (p1 + i * 5) d) := fun w' hb i d hd => (f1 i d hd).below (lt1 i d hd) hb
  have F2 : Hid (∀ w', Below w7.heap.size w7 w' → ∀ (i : Nat) (d : Dr), m[i]? = some d → Five w' g2 (p2 + i * 5) d) := fun w' hb i d hd => (f2 i d hd).below (lt2 i d hd) hb
  have HQ1 : Hid (q1 = none → L = 0 ∧ c1 = 0) := fun hq => by
    refine ⟨?_, hc1 hq⟩
    rcases Nat.eq_zero_or_pos L with h | h
    · exact h
    · rw [e1 h] at hq
      cases hq
  have HQ2 : Hid (q2 = none → M = 0 ∧ c2 = 0) := fun hq => by
    refine ⟨?_, hc2 hq⟩
    rcases Nat.eq_zero_or_pos M with h | h
    · exact h
    · rw [e2 h] at hq
      cases hq
  have HX1 : Hid (∀ w', Below w7.heap.size w7 w' → ∀ ad, q1 = some ad → ∀ j u, (ins l)[j]? = some u → w'.cell? (ad.add j) = some u) := fun w' hb ad hq j u hu => by
    have h0 : 0 < L := by
      have := (List.getElem?_eq_some_iff.1 hu).1
      rw [ins_len] at this
      rw [HLe.out]
      omega
    rw [e1 h0] at hq
    injection hq with hq
    subst hq
    exact sl_news (F1.out w' hb) j u hu
  have HX2 : Hid (∀ w', Below w7.heap.size w7 w' → ∀ ad, q2 = some ad → ∀ j u, (ins m)[j]? = some u → w'.cell? (ad.add j) = some u) := fun w' hb ad hq j u hu => by
    have h0 : 0 < M := by
      have := (List.getElem?_eq_some_iff.1 hu).1
      rw [ins_len] at this
      rw [HMe.out]
      omega
    rw [e2 h0] at hq
    injection hq with hq
    subst hq
    exact sl_news (F2.out w' hb) j u hu
  have HO1 : Hid ((w7.alloc (.cells #[] 39)).ownsRow w7.heap.size 39 5 (.slice (some ⟨w7.heap.size, 0, none⟩) 0 0) 0 []) := ⟨rfl, .inr ⟨w7.heap.size, 0, #[], rfl, Nat.le_refl _, heap_alloc_last w7 _, Nat.le_refl _, by unfold maxLen; omega, rfl, rfl⟩⟩
  have HBa : Hid (Below w7.heap.size w7 (w7.alloc (.cells #[] 39))) := (Below.refl _ _).alloc (Nat.le_refl _) _
  have HBb : Hid (∀ wA : World, (w7.alloc (.cells #[] 39)).grownBy wA (some w7.heap.size) → Below w7.heap.size w7 wA) := fun wA hg => HBa.out.grown hg (by simp) (fun k e => by cases e; exact Nat.le_refl _)
  have HN1 : Hid ((ins l).length = L * 5) := by show _ = _; rw [ins_len, HLe.out]
  have HN2 : Hid ((ins m).length = M * 5) := by show _ = _; rw [ins_len, HMe.out]
  have HSZ : Hid (w7.heap.size ≤ (w7.alloc (.cells #[] 39)).heap.size) := by show _ ≤ _; simp
  have HEQ : Hid (∀ (gA cA : Nat) (wA : World) (gB cB : Nat) (wB : World), (w7.alloc (.cells #[] 39)).grownBy wA (some w7.heap.size) → wA.ownsRow w7.heap.size 39 5 (.slice (some ⟨gA, 0, none⟩) L cA) L (ins l) → wA.grownBy wB (some gA) → wB.ownsRow w7.heap.size 39 5 (.slice (some ⟨gB, 0, none⟩) (L + M) cB) (L + M) (ins l ++ ins m) →
      Calls Tryz.prog 18 #[.slice q7 (L + M) c7, .slice (some ⟨gB, 0, none⟩) (L + M) cB] wB (fun e w' => e = .returned (.bool true) ∧ Below wB.heap.size wB w') ∧ Below w7.heap.size w7 wB) := fun gA cA wA gB cB wB k1 k2 k3 k4 => by
    have hgA : w7.heap.size ≤ gA := by
      rcases k2.2 with ⟨e0, _⟩ | ⟨g, cap, cur, e0, hb, _⟩
      · cases e0
      · injection e0 with e1 _ _; injection e1 with e1; injection e1 with e1; omega
    have b2 := HBb.out wA k1
    have b3 : Below w7.heap.size w7 wB := b2.grown k3 b2.size (fun k e => by cases e; omega)
    rw [← ins_append] at k4
    refine ⟨equal_yes wB q7 _ c7 cB (L + M) (l ++ m) (by rw [List.length_append, HLe.out, HMe.out]) (by omega) (HS7.out.below b3) ⟨gB, 0, fun _ => rfl, fun i d hd => by rw [Nat.zero_add]; exact five_of k4 i d hd⟩, b3⟩
  clear e1 e2 f1 f2 lt1 lt2
  go_wp2_with (at_builtin; refine wpl_append_any _ rfl (.tmp 67) (.tmp 68) 22 rfl w7.heap.size 39 i0 _ 5 40 Tryz.underlying22 hi0 hz0 hz1 hz2 rfl (by decide) w7.heap.size 0 0 [] rfl HO1.out q1 L c1 (ins l) rfl HQ1.out HN1.out (HX1.out _ HBa.out) (ins_one _) (by unfold maxLen; omega) (by omega) HSZ.out L (by omega) ?_)
  intro gA cA wA hoA hgA
  have HGA : Hid ((w7.alloc (.cells #[] 39)).grownBy wA (some w7.heap.size)) := hgA
  have HOA : Hid (wA.ownsRow w7.heap.size 39 5 (.slice (some ⟨gA, 0, none⟩) L cA) L (ins l)) := hoA
  clear hgA hoA
  go_wp2_with (at_builtin; refine wpl_append_any _ rfl (.tmp 69) (.tmp 70) 22 rfl w7.heap.size 39 i0 _ 5 40 Tryz.underlying22 hi0 hz0 hz1 hz2 rfl (by decide) gA L cA (ins l) rfl HOA.out q2 M c2 (ins m) rfl HQ2.out HN2.out (HX2.out _ (HBb.out _ HGA.out)) (ins_one _) (by unfold maxLen; omega) (by omega) (HBb.out _ HGA.out).size (L + M) rfl ?_)
  intro gB cB wB hoB hgB
  have HE2 : Hid (_ ∧ _) := HEQ.out gA cA wA gB cB wB HGA.out HOA.out hgB hoB
  clear hgB hoB
  go_wp2_with (go_at_call 18; refine HE2.out.1.mono ?_; rintro e w9 ⟨rfl, hb9⟩)
  go_ret
  exact ⟨rfl, (HB7.out.trans (HE2.out.2.mono HB7.out.size)).trans (hb9.mono (Nat.le_trans HB7.out.size HE2.out.2.size))⟩

theorem back_any (w : World) (he : Env w) (hw : 11 ≤ w.heap.size) (q1 q2 : Option Addr) (c1 c2 : Nat) (hc1 : q1 = none → c1 = 0) (hc2 : q2 = none → c2 = 0) (l m : List Dr) (hl : Sl w q1 l) (hm : Sl w q2 m)
    (hpl : ∀ d ∈ l, d.pl = []) (hpm : ∀ d ∈ m, d.pl = []) (hbl : ∀ d ∈ l, -9223372036854775808 ≤ d.n ∧ d.n ≤ 9223372036854775807) (hbm : ∀ d ∈ m, -9223372036854775808 ≤ d.n ∧ d.n ≤ 9223372036854775807) :
    Calls Tryz.prog 4 #[.slice q1 l.length c1, .slice q2 m.length c2] w fun e w' => e = .returned (.bool true) ∧ Below w.heap.size w w' := by
  by_cases hL : l.length ≤ 30 ∧ m.length ≤ 30
  · have t1 : ∀ w1, Below w.heap.size w w1 → Calls Tryz.prog 17 #[.slice q1 l.length c1] w1 fun e w' => TxPost l e ∧ Below w1.heap.size w1 w' := fun w1 hb => text_any w1 (he.below hb) q1 c1 l (hl.below hb) hpl hbl hL.1
    have t2 : ∀ w1, Below w.heap.size w w1 → Calls Tryz.prog 17 #[.slice q2 m.length c2] w1 fun e w' => TxPost m e ∧ Below w1.heap.size w1 w' := fun w1 hb => text_any w1 (he.below hb) q2 c2 m (hm.below hb) hpm hbm hL.2
    by_cases ha : ∀ d ∈ l, rtD d = true
    · by_cases hb : ∀ d ∈ m, rtD d = true
      · exact back_yes w he hw q1 q2 c1 c2 hc1 hc2 l m hl hm hL.1 hL.2 hpl hpm ha hb (fun w1 h => text_yes (t1 w1 h) ha) (fun w1 h => text_yes (t2 w1 h) hb)
      · exact back_part w he hw q1 q2 _ _ c1 c2 hL.1 hL.2 _ _ true false (.inr rfl) (fun w1 h => (text_yes (t1 w1 h) ha).mono fun e w' ⟨x, _, y⟩ => ⟨x, y⟩) (fun w1 h => text_no (t2 w1 h) hb)
    · by_cases hb : ∀ d ∈ m, rtD d = true
      · exact back_part w he hw q1 q2 _ _ c1 c2 hL.1 hL.2 _ _ false true (.inl rfl) (fun w1 h => text_no (t1 w1 h) ha) (fun w1 h => (text_yes (t2 w1 h) hb).mono fun e w' ⟨x, _, y⟩ => ⟨x, y⟩)
      · exact back_part w he hw q1 q2 _ _ c1 c2 hL.1 hL.2 _ _ false false (.inl rfl) (fun w1 h => text_no (t1 w1 h) ha) (fun w1 h => text_no (t2 w1 h) hb)
  · exact back_long w q1 q2 _ _ c1 c2 (by omega)
end Go.Proofs.YtjjjdplgdlaihaaGreatDoor
