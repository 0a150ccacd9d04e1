/- Package asm's take at a number with a register in brackets, walked. -/
import Derived.Test.YtjjjdplgdlaihaaGreatDoorB6
namespace Go.Proofs.YtjjjdplgdlaihaaGreatDoor
open Go Go.RowKit

theorem str_size (l : By) : (ByteArray.mk l.toArray).size = l.length := by show l.toArray.size = _; simp
theorem str_data (l : By) : (ByteArray.mk l.toArray).data.toList = l := rfl
theorem cutC_len (c : UInt8) : ∀ l : By, (cutC c l).1.length ≤ l.length ∧ (cutC c l).2.1.length ≤ l.length
  | [] => by simp [cutC]
  | x :: t => by
    have := cutC_len c t
    rw [cutC]
    split
    · simp
    · simp; omega

set_option maxHeartbeats 4000000 in
theorem tk_40 (w : World) (g : Nat) (d : Dr) (ln : Int) (p : ByteArray) (h : DrAt w g d ln) (he : Env w) (hs : p.size < 4294967281) :
    Calls Tryz.prog 63 #[.pointer (some ⟨g, 0, none⟩), .int .u8 40, .string p] w fun e w' => Took w g ln (takeV 40 p.data.toList d) e w' := by
  have hpl : p.data.toList.length = p.size := by simp
  have hcl := cutC_len 40 p.data.toList
  have et : takeV 40 p.data.toList d = memV (cutC 40 p.data.toList).1 (cutC 40 p.data.toList).2.1 d := by unfold takeV; rw [if_neg (by decide), if_neg (by decide), if_neg (by decide), if_pos rfl]
  rw [et]
  clear et
  have HC : Hid (Calls Tryz.prog 59 #[.string p, .string ⟨#[40]⟩] w fun e w' => e = .returned (.tuple #[str (cutC 40 p.data.toList).1, str (cutC 40 p.data.toList).2.1, .bool (cutC 40 p.data.toList).2.2]) ∧ Below w.heap.size w w') :=
    (cut_any p 40 w he hs).mono fun e w' ⟨a, n, b⟩ => ⟨a, by rw [b]; exact below_drewN (Below.refl _ _) _⟩
  rw [hpl] at hcl
  generalize (cutC 40 p.data.toList).1 = n at *
  generalize (cutC 40 p.data.toList).2.1 = bh at *
  generalize (cutC 40 p.data.toList).2.2 = mo at *
  have e41 : (ByteArray.mk #[41]).data.toList = [41] := rfl
  have HD0 : Hid (∀ w', Below w.heap.size w w' → DrAt w' g d ln ∧ Off (· = g) w w') := fun w' hb => ⟨h.below hb, Off.of_below hb⟩
  by_cases hl : bh.getLast? = some 41
  · have HS : Hid (∀ w, Calls Tryz.prog 25 #[str bh, .string ⟨#[41]⟩] w fun e w' => e = .returned (.tuple #[str bh.dropLast, .bool true]) ∧ w' = w) := fun w => by
      have := Tryz.strings_CutSuffix ⟨bh.toArray⟩ ⟨#[41]⟩ w (by rw [str_size]; omega)
      rw [e41, str_data, (suf_yes bh 41 hl).1, (suf_yes bh 41 hl).2] at this
      exact this
    cases hv : numV n with
    | none =>
      rw [memV_none hl hv]
      have HN : Hid (∀ w', Below w.heap.size w w' → Calls Tryz.prog 91 #[str n, .pointer (some ⟨g, 4, none⟩)] w' fun e w'' => e = .returned (.bool false) ∧ DrAt w'' g d ln ∧ Off (· = g) w w'') := fun w' hb =>
        (num_no ⟨n.toArray⟩ ⟨g, 4, none⟩ w' (he.below hb) (by rw [str_size]; omega) hv).mono fun e w'' ⟨a, b⟩ => ⟨a, HD0.out _ (hb.trans (b.mono hb.size))⟩
      clear h he hs hv hpl hcl hl HD0
      go_enter Tryz.func63, Tryz.ntmps63
      go_wp2_with (first
        | (go_at_call 59; refine HC.out.mono ?_; rintro e w1 ⟨rfl, hb⟩; have HB : Hid (Below w.heap.size w w1) := hb; clear hb)
        | (go_at_call 25; refine (HS.out _).mono ?_; rintro e w1 ⟨rfl, rfl⟩)
        | (go_at_call 91; refine (HN.out _ HB.out).mono ?_; rintro e w2 ⟨rfl, hd, ho⟩; have HD : Hid (DrAt w2 g d ln) := hd; have HO : Hid (Off (· = g) w w2) := ho; clear hd ho)
        | go_in)
      go_ret
      exact ⟨_, HD.out, HO.out, rfl⟩
    | some v =>
      rw [memV_some hl hv]
      have HN : Hid (∀ w', Below w.heap.size w w' → Calls Tryz.prog 91 #[str n, .pointer (some ⟨g, 4, none⟩)] w' fun e w'' => e = .returned (.bool true) ∧ DrAt w'' g { d with n := v } ln ∧ Off (· = g) w w'') := fun w' hb =>
        (num_yes ⟨n.toArray⟩ ⟨g, 4, none⟩ _ v w' (he.below hb) (by rw [str_size]; omega) hv (h.below hb).c4 ((h.below hb).fz _)).mono fun e w'' ⟨a, w2, b1, b2⟩ => ⟨a, by rw [b2]; exact ((h.below hb).below b1).setN v, by rw [b2]; exact off_put (hb.trans (b1.mono hb.size)) _ _⟩
      have hdl : bh.dropLast.length ≤ bh.length := by simp
      have hlt := h.lt
      have hg0 := h.g0
      cases hr : rgsV bh.dropLast with
      | none =>
        have HR : Hid (∀ w', DrAt w' g { d with n := v } ln → Off (· = g) w w' → Calls Tryz.prog 90 #[str bh.dropLast, .pointer (some ⟨g, 2, none⟩)] w' fun e w'' => e = .returned (.bool false) ∧ DrAt w'' g { d with n := v } ln ∧ Off (· = g) w w'') := fun w' hd ho =>
          (reg_no ⟨bh.dropLast.toArray⟩ ⟨g, 2, none⟩ w' (he.off hg0 hlt ho) (by rw [str_size]; omega) hr).mono fun e w'' ⟨a, b⟩ => ⟨a, hd.below b, ho.trans (Off.of_below b)⟩
        clear h he hs hv hpl hcl hl HD0 hr hdl hlt hg0
        go_enter Tryz.func63, Tryz.ntmps63
        go_wp2_with (first
          | (go_at_call 59; refine HC.out.mono ?_; rintro e w1 ⟨rfl, hb⟩; have HB : Hid (Below w.heap.size w w1) := hb; clear hb)
          | (go_at_call 25; refine (HS.out _).mono ?_; rintro e w1 ⟨rfl, rfl⟩)
          | (go_at_call 91; refine (HN.out _ HB.out).mono ?_; rintro e w2 ⟨rfl, hd, ho⟩; have HD : Hid (DrAt w2 g { d with n := v } ln) := hd; have HO : Hid (Off (· = g) w w2) := ho; clear hd ho)
          | (go_at_call 90; refine (HR.out _ HD.out HO.out).mono ?_; rintro e w3 ⟨rfl, hd, ho⟩; have HD3 : Hid (DrAt w3 g { d with n := v } ln) := hd; have HO3 : Hid (Off (· = g) w w3) := ho; clear hd ho)
          | go_in)
        go_ret
        exact ⟨_, HD3.out, HO3.out, rfl⟩
      | some r =>
        have HR : Hid (∀ w', DrAt w' g { d with n := v } ln → Off (· = g) w w' → Calls Tryz.prog 90 #[str bh.dropLast, .pointer (some ⟨g, 2, none⟩)] w' fun e w'' => e = .returned (.bool true) ∧ DrAt w'' g { d with n := v, a := r } ln ∧ Off (· = g) w w'') := fun w' hd ho =>
          (reg_yes ⟨bh.dropLast.toArray⟩ ⟨g, 2, none⟩ _ r w' (he.off hg0 hlt ho) (by rw [str_size]; omega) hr hd.c2 (hd.fz _)).mono fun e w'' ⟨a, w2, b1, b2⟩ => ⟨a, by rw [b2]; exact (hd.below b1).setA r, by rw [b2]; exact ho.trans (off_put b1 _ _)⟩
        clear h he hs hv hpl hcl hl HD0 hr hdl hlt hg0
        go_enter Tryz.func63, Tryz.ntmps63
        go_wp2_with (first
          | (go_at_call 59; refine HC.out.mono ?_; rintro e w1 ⟨rfl, hb⟩; have HB : Hid (Below w.heap.size w w1) := hb; clear hb)
          | (go_at_call 25; refine (HS.out _).mono ?_; rintro e w1 ⟨rfl, rfl⟩)
          | (go_at_call 91; refine (HN.out _ HB.out).mono ?_; rintro e w2 ⟨rfl, hd, ho⟩; have HD : Hid (DrAt w2 g { d with n := v } ln) := hd; have HO : Hid (Off (· = g) w w2) := ho; clear hd ho)
          | (go_at_call 90; refine (HR.out _ HD.out HO.out).mono ?_; rintro e w3 ⟨rfl, hd, ho⟩; have HD3 : Hid (DrAt w3 g { d with n := v, a := r } ln) := hd; have HO3 : Hid (Off (· = g) w w3) := ho; clear hd ho)
          | go_in)
        go_ret
        exact ⟨_, HD3.out, HO3.out, rfl, rfl⟩
  · rw [memV_no hl]
    have HS : Hid (∀ w, Calls Tryz.prog 25 #[str bh, .string ⟨#[41]⟩] w fun e w' => ∃ x, e = .returned (.tuple #[.string x, .bool false]) ∧ w' = w) := fun w => by
      have := Tryz.strings_CutSuffix ⟨bh.toArray⟩ ⟨#[41]⟩ w (by rw [str_size]; omega)
      rw [e41, str_data, suf_no bh 41 hl] at this
      exact this.mono fun e w' ⟨a, b⟩ => ⟨_, a, b⟩
    clear h he hs hpl hcl hl
    go_enter Tryz.func63, Tryz.ntmps63
    go_wp2_with (first
      | (go_at_call 59; refine HC.out.mono ?_; rintro e w1 ⟨rfl, hb⟩; have HB : Hid (Below w.heap.size w w1) := hb; clear hb)
      | (go_at_call 25; refine (HS.out _).mono ?_; rintro e w1 ⟨x, rfl, rfl⟩)
      | go_in)
    go_ret
    exact ⟨_, (HD0.out _ HB.out).1, (HD0.out _ HB.out).2, rfl⟩

/-- take, at each kind of part that there is. -/
theorem take_all (w : World) (g : Nat) (d : Dr) (ln : Int) (k : UInt8) (hk : kindOk k = true) (p : ByteArray) (h : DrAt w g d ln) (he : Env w) (hs : p.size < 4294967281) :
    Calls Tryz.prog 63 #[.pointer (some ⟨g, 0, none⟩), .int .u8 (k.toNat : Int), .string p] w fun e w' => Took w g ln (takeV k p.data.toList d) e w' := by
  simp only [kindOk, Bool.or_eq_true, beq_iff_eq] at hk
  rcases hk with ((((rfl | rfl) | rfl) | rfl) | rfl) | rfl
  · exact tk_100 w g d ln p h he hs
  · exact tk_97 w g d ln p h he hs
  · exact tk_98 w g d ln p h he hs
  · exact tk_40 w g d ln p h he hs
  · exact tk_58 w g d ln p h he hs
  · exact tk_110 w g d ln p h he hs
end Go.Proofs.YtjjjdplgdlaihaaGreatDoor
