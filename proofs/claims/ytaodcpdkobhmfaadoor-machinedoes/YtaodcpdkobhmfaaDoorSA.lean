/- The document's Step at Lui. -/
import Derived.Test.YtaodcpdkobhmfaaDoorMP
namespace Go.Proofs.YtaodcpdkobhmfaaDoor
open Go Go.RowKit

theorem At.done {w w3 : World} {B s mb n L g d : Nat} {m : MS} {gv ov : Value} {o a b k : Int} (h : At w w3 B s mb n L g m gv ov o d a b k) (hd : d < 32) (q : Nat) (x y : Int) : DPost w B s mb n L { m with R := upd m.R d x, pc := y } ov (((w3.drewN q).setCell ⟨s, d, none⟩ (.int .i64 x)).setCell ⟨s, 34, none⟩ (.int .i64 y)) :=
  DPost.trans (Off.of_below h.off) (fun _ e => .inl e) (DPost.after q (DPost.of (((h.mac.drewN q).setReg d hd x).setPc y) (((off_s _ _).trans (off_s _ _)).ws)))
theorem At.past {w w3 : World} {B s mb n L g : Nat} {m : MS} {gv ov : Value} {o d a b k : Int} (h : At w w3 B s mb n L g m gv ov o d a b k) (q : Nat) (y : Int) : DPost w B s mb n L { m with pc := y } ov ((w3.drewN q).setCell ⟨s, 34, none⟩ (.int .i64 y)) :=
  DPost.trans (Off.of_below h.off) (fun _ e => .inl e) (DPost.after q (DPost.of ((h.mac.drewN q).setPc y) ((off_s _ _).ws)))

set_option maxRecDepth 100000 in
set_option maxHeartbeats 2000000 in
theorem dstep_29 (w : World) (B s mb n L p d a b : Nat) (k : Int) (m : MS) (gv ov : Value) (h : DMac w B s mb n L m gv ov) (hL : L % 8 = 0) (hr : Rng L m) (h0 : m.way = 0) (hp : m.pc = p) (hf : hasB L p 4 = true) (hdl : d < 32) (hal : a < 32) (hbl : b < 32)
    (hd : ∀ w, Calls Tryd.prog 32 #[.int .u32 (gthTo m.M p 4)] w fun e w' => e = .returned (.tuple #[instV 29 d a b k, .int .i64 0]) ∧ Below w.heap.size w w') :
    Calls Tryd.prog 10 #[.pointer (some ⟨s, 0, none⟩)] w fun e w' => e = .returned (.tuple #[]) ∧ DPost w B s mb n L { writeV m d k with pc := (p : Int) + 4 } ov w' := by
  have cp := h.core.pc
  have c36 := h.core.way
  rw [h0] at c36
  rw [hp] at cp
  obtain ⟨_, h4, hLp⟩ := has_split hf
  have hL1 := h.core.L1
  have h4n : (p : Int) % 4 = 0 := h4
  have ha8 : hasB L ((p - p % 8 : Nat) : Int) 8 = true := by simp [hasB]; omega
  have HL : Hid (∀ q a, a = ((p - p % 8 : Nat) : Int) → Calls Tryd.prog 12 #[.pointer (some ⟨s, 0, none⟩), .int .i64 a] (w.drewN q) fun e w' => e = .returned (.tuple #[.int .i64 (ldV m.M (p - p % 8)), .int .i64 0]) ∧ w' = w.drewN q) := fun q a ha => by
    subst ha
    exact dload_yes (w.drewN q) s mb n L m gv ov _ (h.drewN q).core ha8
  have HW : Hid (ldV m.M (p - p % 8) % 18446744073709551616 / (2 : Int) ^ (8 * (p % 8)) % 4294967296 = gthTo m.M p 4) := fet_word m.M L p hL hf hr.M
  have HD : Hid (∀ w x, x = gthTo m.M p 4 → Calls Tryd.prog 32 #[.int .u32 x] w fun e w' => e = .returned (.tuple #[instV 29 d a b k, .int .i64 0]) ∧ Below w.heap.size w w') := fun w x hx => by rw [hx]; exact hd w
  have HM : Hid (DMac w B s mb n L m gv ov) := h
  have H0 : Hid (m.way = 0) := h0
  have HP : Hid (m.pc = p) := hp
  clear h hr hf h0 hd ha8 hp h4
  generalize ldV m.M (p - p % 8) = v at *
  generalize gthTo m.M p 4 = W at *
  by_cases hd0 : d = 0
  · subst hd0
    have eW : writeV m ((0 : Nat) : Int) k = m := by simp [writeV]
    rw [eW]
    rcases (show p % 8 = 0 ∨ p % 8 = 4 by omega) with h8 | h8
    · rw [h8] at HW
      have h8' : (p : Int) % 8 = 0 := by omega
      go_enter Tryd.func10, Tryd.ntmps10
      go_wp2_with fail
      go_quiet ((go_at_call 12; exact Calls.quiet_of_same (HL.out _ _ (by omega))))
      go_wp2_with (go_at_call 32; refine (HD.out _ _ (by have := HW.out; simp [IntKind.wrap_u64] at this ⊢; omega)).mono ?_; rintro e w1 ⟨rfl, hb⟩; have HB1 : Hid (Below _ _ w1) := hb; clear hb)
      refine (formOf_29 _).mono ?_
      rintro e w2 ⟨⟨sx, rfl⟩, hb⟩
      have HA : Hid (At w (w2.alloc (frmO 85 55 0 0 sx)) B s mb n L w1.heap.size m gv ov 29 (0 : Nat) a b k) := at_mk HM.out HB1.out hb
      have x0 := HA.out.c0
      have x1 := HA.out.c1
      simp only [Int.natCast_zero] at x1
      have x2 := HA.out.c2
      have x3 := HA.out.c3
      have x4 := HA.out.c4
      have ra := HA.out.mac.core.reg a hal
      have rb := HA.out.mac.core.reg b hbl
      have rd := HA.out.mac.core.reg 0 hdl
      have fd := HA.out.mac.core.fs 0
      have f34 := HA.out.mac.core.fs 34
      have y36 := HA.out.mac.core.way
      rw [H0.out] at y36
      have y34 := HA.out.mac.core.pc
      rw [HP.out] at y34
      clear hb
      go_wp2_with fail
      go_quiet (fail)
      go_wp2_with fail
      go_quiet (fail)
      go_wp2
      go_end0
      exact ⟨rfl, HA.out.past _ _⟩
    · rw [h8] at HW
      have h8' : (p : Int) % 8 = 4 := by omega
      go_enter Tryd.func10, Tryd.ntmps10
      go_wp2_with fail
      go_quiet ((go_at_call 12; exact Calls.quiet_of_same (HL.out _ _ (by omega))))
      go_wp2_with (go_at_call 32; refine (HD.out _ _ (by have := HW.out; simp [IntKind.wrap_u64] at this ⊢; omega)).mono ?_; rintro e w1 ⟨rfl, hb⟩; have HB1 : Hid (Below _ _ w1) := hb; clear hb)
      refine (formOf_29 _).mono ?_
      rintro e w2 ⟨⟨sx, rfl⟩, hb⟩
      have HA : Hid (At w (w2.alloc (frmO 85 55 0 0 sx)) B s mb n L w1.heap.size m gv ov 29 (0 : Nat) a b k) := at_mk HM.out HB1.out hb
      have x0 := HA.out.c0
      have x1 := HA.out.c1
      simp only [Int.natCast_zero] at x1
      have x2 := HA.out.c2
      have x3 := HA.out.c3
      have x4 := HA.out.c4
      have ra := HA.out.mac.core.reg a hal
      have rb := HA.out.mac.core.reg b hbl
      have rd := HA.out.mac.core.reg 0 hdl
      have fd := HA.out.mac.core.fs 0
      have f34 := HA.out.mac.core.fs 34
      have y36 := HA.out.mac.core.way
      rw [H0.out] at y36
      have y34 := HA.out.mac.core.pc
      rw [HP.out] at y34
      clear hb
      go_wp2_with fail
      go_quiet (fail)
      go_wp2_with fail
      go_quiet (fail)
      go_wp2
      go_end0
      exact ⟨rfl, HA.out.past _ _⟩
  · have eW : writeV m (d : Int) k = { m with R := upd m.R d k } := by simp [writeV, hd0]
    rw [eW]
    have hd1 : 0 < d := by omega
    rcases (show p % 8 = 0 ∨ p % 8 = 4 by omega) with h8 | h8
    · rw [h8] at HW
      have h8' : (p : Int) % 8 = 0 := by omega
      go_enter Tryd.func10, Tryd.ntmps10
      go_wp2_with fail
      go_quiet ((go_at_call 12; exact Calls.quiet_of_same (HL.out _ _ (by omega))))
      go_wp2_with (go_at_call 32; refine (HD.out _ _ (by have := HW.out; simp [IntKind.wrap_u64] at this ⊢; omega)).mono ?_; rintro e w1 ⟨rfl, hb⟩; have HB1 : Hid (Below _ _ w1) := hb; clear hb)
      refine (formOf_29 _).mono ?_
      rintro e w2 ⟨⟨sx, rfl⟩, hb⟩
      have HA : Hid (At w (w2.alloc (frmO 85 55 0 0 sx)) B s mb n L w1.heap.size m gv ov 29 d a b k) := at_mk HM.out HB1.out hb
      have x0 := HA.out.c0
      have x1 := HA.out.c1
      have x2 := HA.out.c2
      have x3 := HA.out.c3
      have x4 := HA.out.c4
      have ra := HA.out.mac.core.reg a hal
      have rb := HA.out.mac.core.reg b hbl
      have rd := HA.out.mac.core.reg d hdl
      have fd := HA.out.mac.core.fs d
      have f34 := HA.out.mac.core.fs 34
      have y36 := HA.out.mac.core.way
      rw [H0.out] at y36
      have y34 := HA.out.mac.core.pc
      rw [HP.out] at y34
      clear hb
      go_wp2_with fail
      go_quiet (fail)
      go_wp2_with fail
      go_quiet (fail)
      go_wp2_with fail
      go_region
      all_goals
        go_wp2
        go_end0
        exact ⟨rfl, HA.out.done hdl _ _ _⟩
    · rw [h8] at HW
      have h8' : (p : Int) % 8 = 4 := by omega
      go_enter Tryd.func10, Tryd.ntmps10
      go_wp2_with fail
      go_quiet ((go_at_call 12; exact Calls.quiet_of_same (HL.out _ _ (by omega))))
      go_wp2_with (go_at_call 32; refine (HD.out _ _ (by have := HW.out; simp [IntKind.wrap_u64] at this ⊢; omega)).mono ?_; rintro e w1 ⟨rfl, hb⟩; have HB1 : Hid (Below _ _ w1) := hb; clear hb)
      refine (formOf_29 _).mono ?_
      rintro e w2 ⟨⟨sx, rfl⟩, hb⟩
      have HA : Hid (At w (w2.alloc (frmO 85 55 0 0 sx)) B s mb n L w1.heap.size m gv ov 29 d a b k) := at_mk HM.out HB1.out hb
      have x0 := HA.out.c0
      have x1 := HA.out.c1
      have x2 := HA.out.c2
      have x3 := HA.out.c3
      have x4 := HA.out.c4
      have ra := HA.out.mac.core.reg a hal
      have rb := HA.out.mac.core.reg b hbl
      have rd := HA.out.mac.core.reg d hdl
      have fd := HA.out.mac.core.fs d
      have f34 := HA.out.mac.core.fs 34
      have y36 := HA.out.mac.core.way
      rw [H0.out] at y36
      have y34 := HA.out.mac.core.pc
      rw [HP.out] at y34
      clear hb
      go_wp2_with fail
      go_quiet (fail)
      go_wp2_with fail
      go_quiet (fail)
      go_wp2_with fail
      go_region
      all_goals
        go_wp2
        go_end0
        exact ⟨rfl, HA.out.done hdl _ _ _⟩
end Go.Proofs.YtaodcpdkobhmfaaDoor
