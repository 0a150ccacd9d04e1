/- The document's Step: where it fetches its word; a machine that has ended. The document's Step, where there is nothing to do. -/
import Derived.Test.YtaodcpdkobhmfaaDoorMJ
import Derived.Test.YtaodcpdkobhmfaaDoorH8
import Derived.BigQuiet
namespace Go.Proofs.YtaodcpdkobhmfaaDoor
open Go Go.RowKit

/-- The numbers of a machine's state are numbers of 64 bits, its bytes are bytes. -/
structure Rng (L : Nat) (m : MS) : Prop where
  R : ∀ i, i < 32 → -9223372036854775808 ≤ m.R i ∧ m.R i ≤ 9223372036854775807
  pc : -9223372036854775808 ≤ m.pc ∧ m.pc ≤ 9223372036854775807
  G : ∀ x ∈ m.G, -9223372036854775808 ≤ x ∧ x ≤ 9223372036854775807
  M : ∀ i, i < L → 0 ≤ m.M i ∧ m.M i ≤ 255

/-- The word at pc lies in the eight bytes around it. -/
theorem fet_has (L : Nat) (pc : Int) (hL : L % 8 = 0) : (decide (pc < 0) || (pc % 4 != 0) || !hasB L (pc - pc.tmod 8) 8) = !hasB L pc 4 := by
  by_cases h0 : pc < 0
  · simp [hasB, h0]
  · obtain ⟨p, rfl⟩ := Int.eq_ofNat_of_zero_le (show 0 ≤ pc by omega)
    rw [show (p : Int).tmod 8 = ((p % 8 : Nat) : Int) by rw [Int.tmod_eq_emod_of_nonneg (by omega)]; omega]
    by_cases h4 : p % 4 = 0
    · have e1 : ((p : Int) % 4 != 0) = false := by simp; omega
      have e2 : decide ((p : Int) < 0) = false := by simp
      rw [e1, e2]
      simp only [Bool.false_or, hasB]
      congr 1
      rw [Bool.eq_iff_iff]
      simp
      omega
    · have e1 : ((p : Int) % 4 != 0) = true := by simp; omega
      rw [e1]
      simp [hasB]
      omega

theorem fet_word (M : Nat → Int) (L p : Nat) (hL : L % 8 = 0) (h : hasB L p 4 = true) (hM : ∀ i, i < L → 0 ≤ M i ∧ M i ≤ 255) : ldV M (p - p % 8) % 18446744073709551616 / (2 : Int) ^ (8 * (p % 8)) % 4294967296 = gthTo M p 4 := by
  obtain ⟨_, h4, h5⟩ := has_split h
  have hp4 : p % 4 = 0 := by omega
  have hr := gth_range M (p - p % 8) 8 (fun i hi => hM _ (by omega))
  have e : ldV M (p - p % 8) % 18446744073709551616 = gthTo M (p - p % 8) 8 := by
    unfold ldV
    have : (256 : Int) ^ 8 = 18446744073709551616 := rfl
    unfold wrap64
    omega
  rw [e, gth8, gth4]
  have b0 := hM (p - p % 8) (by omega)
  have b1 := hM (p - p % 8 + 1) (by omega)
  have b2 := hM (p - p % 8 + 2) (by omega)
  have b3 := hM (p - p % 8 + 3) (by omega)
  have b4 := hM (p - p % 8 + 4) (by omega)
  have b5 := hM (p - p % 8 + 5) (by omega)
  have b6 := hM (p - p % 8 + 6) (by omega)
  have b7 := hM (p - p % 8 + 7) (by omega)
  rcases (show p % 8 = 0 ∨ p % 8 = 4 by omega) with h0 | h0
  · rw [h0]
    simp only [Nat.sub_zero, Nat.mul_zero, Int.pow_zero, Int.ediv_one]
    rw [h0] at b0 b1 b2 b3 b4 b5 b6 b7
    simp only [Nat.sub_zero] at b0 b1 b2 b3 b4 b5 b6 b7
    omega
  · rw [h0]
    rw [h0] at b0 b1 b2 b3 b4 b5 b6 b7
    have e4 : p - 4 + 4 = p := by omega
    have e5 : p - 4 + 5 = p + 1 := by omega
    have e6 : p - 4 + 6 = p + 2 := by omega
    have e7 : p - 4 + 7 = p + 3 := by omega
    rw [e4] at b4 ⊢
    rw [e5] at b5 ⊢
    rw [e6] at b6 ⊢
    rw [e7] at b7 ⊢
    have : (2 : Int) ^ (8 * 4) = 4294967296 := rfl
    rw [this]
    omega

set_option maxRecDepth 100000 in
set_option maxHeartbeats 1000000 in
theorem dstep_ended (w : World) (B s mb n L : Nat) (m : MS) (gv ov : Value) (h : DMac w B s mb n L m gv ov) (h0 : m.way ≠ 0) :
    Calls Tryd.prog 10 #[.pointer (some ⟨s, 0, none⟩)] w fun e w' => e = .returned (.tuple #[]) ∧ DPost w B s mb n L m ov w' := by
  have HM : Hid (DMac w B s mb n L m gv ov) := h
  have hw := h.core.way
  generalize m.way = x at *
  clear h
  go_enter Tryd.func10, Tryd.ntmps10
  go_wp2_with fail
  refine bodyPost_ret (results_none rfl _ _ _) rfl ?_
  exact ⟨rfl, DPost.of HM.out (Off.refl _ _)⟩
end Go.Proofs.YtaodcpdkobhmfaaDoor

namespace Go.Proofs.YtaodcpdkobhmfaaDoor
open Go Go.RowKit

section
variable {w w' : World} {B s mb n L : Nat} {m : MS} {gv ov : Value}
theorem DMac.drewN (h : DMac w B s mb n L m gv ov) (q : Nat) : DMac (w.drewN q) B s mb n L m gv ov := h.off (S := fun _ => False) ((Off.refl _ _).drewN q) (fun _ _ h => h.elim)
theorem DPost.after (q : Nat) (h : DPost (w.drewN q) B s mb n L m ov w') : DPost w B s mb n L m ov w' := DPost.trans ((Off.refl _ _).drewN q) (fun _ e => .inl e) h
end

/-- What the document's Load answers. -/
def dlV (L : Nat) (M : Nat → Int) (a : Int) : Int := if hasB L a 8 then ldV M a.toNat else 0
def dlE (L : Nat) (a : Int) : Int := if hasB L a 8 then 0 else 2

theorem dload_any (w : World) (s mb n L : Nat) (m : MS) (gv ov : Value) (a : Int) (h : Doc w s mb n L m gv ov) :
    Calls Tryd.prog 12 #[.pointer (some ⟨s, 0, none⟩), .int .i64 a] w fun e w' => e = .returned (.tuple #[.int .i64 (dlV L m.M a), .int .i64 (dlE L a)]) ∧ w' = w := by
  unfold dlV dlE
  by_cases ha : hasB L a 8 = true
  · rw [if_pos ha, if_pos ha]; exact dload_yes w s mb n L m gv ov a h ha
  · rw [if_neg ha, if_neg ha]; exact dload_no w s mb n L m gv ov a h (by simpa using ha)

set_option maxRecDepth 100000 in
set_option maxHeartbeats 1000000 in
theorem dstep_far (w : World) (B s mb n L : Nat) (m : MS) (gv ov : Value) (h : DMac w B s mb n L m gv ov) (hL : L % 8 = 0) (hr : Rng L m) (hc : m.code = 0) (h0 : m.way = 0) (hf : hasB L m.pc 4 = false) :
    Calls Tryd.prog 10 #[.pointer (some ⟨s, 0, none⟩)] w fun e w' => e = .returned (.tuple #[]) ∧ DPost w B s mb n L { m with way := 9, code := 0 } ov w' := by
  have HM : Hid (∀ q, DPost w B s mb n L { m with way := 9, code := 0 } ov ((w.drewN q).setCell ⟨s, 36, none⟩ (.int .i64 9))) := fun q => DPost.after q (DPost.way (h.drewN q) hc 9)
  have cp := h.core.pc
  have c36 := h.core.way
  have f36 := h.core.fs 36
  rw [h0] at c36
  have hfh := fet_has L m.pc hL
  rw [hf] at hfh
  obtain ⟨p0, p1⟩ := hr.pc
  have HL : Hid (∀ q a, Calls Tryd.prog 12 #[.pointer (some ⟨s, 0, none⟩), .int .i64 a] (w.drewN q) fun e w' => e = .returned (.tuple #[.int .i64 (dlV L m.M a), .int .i64 (dlE L a)]) ∧ w' = w.drewN q) := fun q a => dload_any (w.drewN q) s mb n L m gv ov a (h.drewN q).core
  have HF : Hid ((decide (m.pc < 0) || (m.pc % 4 != 0) || !hasB L (m.pc - m.pc.tmod 8) 8) = true) := by show _ = _; rw [hfh]; rfl
  clear h hc hr hf hfh h0
  generalize m.pc = x at *
  by_cases h1 : x < 0
  · clear HF
    go_enter Tryd.func10, Tryd.ntmps10
    go_wp2_with fail
    go_quiet ((go_at_call 12; exact Calls.quiet_of_same (HL.out _ _)))
    go_wp2
    refine bodyPost_ret (results_none rfl _ _ _) rfl ?_
    exact ⟨rfl, HM.out _⟩
  · obtain ⟨p, rfl⟩ := Int.eq_ofNat_of_zero_le (show 0 ≤ x by omega)
    by_cases h4 : p % 4 = 0
    · have HE : Hid (∀ q a, a = (p : Int) - (p : Int) % 8 → Calls Tryd.prog 12 #[.pointer (some ⟨s, 0, none⟩), .int .i64 a] (w.drewN q) fun e w' => e = .returned (.tuple #[.int .i64 0, .int .i64 2]) ∧ w' = w.drewN q) := fun q a ha => by
        have e1 : ((p : Int) % 4 != 0) = false := by simp; omega
        have e2 : decide ((p : Int) < 0) = false := by simp
        have e3 : hasB L a 8 = false := by
          have := HF.out
          rw [e1, e2, Int.tmod_eq_emod_of_nonneg (by omega), ← ha] at this
          simpa using this
        have := HL.out q a
        rw [dlV, dlE, e3] at this
        exact this
      clear HF HL
      have h4' : (p : Int) % 4 = 0 := by omega
      go_enter Tryd.func10, Tryd.ntmps10
      go_wp2_with fail
      go_quiet ((go_at_call 12; exact Calls.quiet_of_same (HE.out _ _ (by first | rfl | omega))))
      go_wp2
      refine bodyPost_ret (results_none rfl _ _ _) rfl ?_
      exact ⟨rfl, HM.out _⟩
    · clear HF
      have h4' : ¬ (p : Int) % 4 = 0 := by omega
      go_enter Tryd.func10, Tryd.ntmps10
      go_wp2_with fail
      go_quiet ((go_at_call 12; exact Calls.quiet_of_same (HL.out _ _)))
      go_wp2
      refine bodyPost_ret (results_none rfl _ _ _) rfl ?_
      exact ⟨rfl, HM.out _⟩
end Go.Proofs.YtaodcpdkobhmfaaDoor
