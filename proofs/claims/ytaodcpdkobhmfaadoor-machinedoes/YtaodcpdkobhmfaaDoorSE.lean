/- The document's Step at the ops of three registers. -/
import Derived.Test.YtaodcpdkobhmfaaDoorSD
import Derived.Test.YtaodcpdkobhmfaaDoorS1
namespace Go.Proofs.YtaodcpdkobhmfaaDoor
open Go Go.RowKit

set_option maxRecDepth 100000 in
set_option maxHeartbeats 2000000 in
theorem dstep_r (w : World) (B s mb n L p d a b : Nat) (k : Int) (m : MS) (gv ov : Value) (o : Int) (h : DMac w B s mb n L m gv ov) (hL : L % 8 = 0) (hr : Rng L m) (h0 : m.way = 0) (hp : m.pc = p) (hf : hasB L p 4 = true) (hdl : d < 32) (hal : a < 32) (hbl : b < 32) (ho1 : 1 ≤ o) (ho2 : o ≤ 13)
    (hd : ∀ w, Calls Tryd.prog 32 #[.int .u32 (gthTo m.M p 4)] w fun e w' => e = .returned (.tuple #[instV o d a b k, .int .i64 0]) ∧ Below w.heap.size w w') :
    Calls Tryd.prog 10 #[.pointer (some ⟨s, 0, none⟩)] w fun e w' => e = .returned (.tuple #[]) ∧ DPost w B s mb n L { writeV m d (Alu.aluV o (m.R a) (m.R b)) with pc := (p : Int) + 4 } ov w' := by
  have cp := h.core.pc
  have c36 := h.core.way
  rw [h0] at c36
  rw [hp] at cp
  obtain ⟨_, h4, hLp⟩ := has_split hf
  have hL1 := h.core.L1
  have h4n : (p : Int) % 4 = 0 := h4
  have ha8 : hasB L ((p - p % 8 : Nat) : Int) 8 = true := by simp [hasB]; omega
  have HL : Hid (∀ q a, a = ((p - p % 8 : Nat) : Int) → Calls Tryd.prog 12 #[.pointer (some ⟨s, 0, none⟩), .int .i64 a] (w.drewN q) fun e w' => e = .returned (.tuple #[.int .i64 (ldV m.M (p - p % 8)), .int .i64 0]) ∧ w' = w.drewN q) := fun q a ha => by
    subst ha
    exact dload_yes (w.drewN q) s mb n L m gv ov _ (h.drewN q).core ha8
  have HW : Hid (ldV m.M (p - p % 8) % 18446744073709551616 / (2 : Int) ^ (8 * (p % 8)) % 4294967296 = gthTo m.M p 4) := fet_word m.M L p hL hf hr.M
  have HD : Hid (∀ w x, x = gthTo m.M p 4 → Calls Tryd.prog 32 #[.int .u32 x] w fun e w' => e = .returned (.tuple #[instV o d a b k, .int .i64 0]) ∧ Below w.heap.size w w') := fun w x hx => by rw [hx]; exact hd w
  have HM : Hid (DMac w B s mb n L m gv ov) := h
  have H0 : Hid (m.way = 0) := h0
  have HP : Hid (m.pc = p) := hp
  have HA1 : Hid (∀ w, Calls Tryd.prog 34 #[.int .i64 o, .int .i64 (m.R a), .int .i64 (m.R b)] w fun e w' => e = .returned (.int .i64 (Alu.aluV o (m.R a) (m.R b))) ∧ ∃ n, w' = w.drewN n) := fun w => Alu.ref_any o (m.R a) (m.R b) w (hr.R a hal).1 (hr.R a hal).2 (hr.R b hbl).1 (hr.R b hbl).2
  by_cases hd0 : d = 0
  clear h hr hf h0 hd ha8 hp h4
  generalize ldV m.M (p - p % 8) = v at *
  generalize gthTo m.M p 4 = W at *
  · subst hd0
    have eW : writeV m ((0 : Nat) : Int) (Alu.aluV o (m.R a) (m.R b)) = m := by simp [writeV]
    rw [eW]
    rcases (show p % 8 = 0 ∨ p % 8 = 4 by omega) with h8 | h8
    · rw [h8] at HW
      have h8' : (p : Int) % 8 = 0 := by omega
      go_enter Tryd.func10, Tryd.ntmps10
      go_wp2_with fail
      go_quiet ((go_at_call 12; exact Calls.quiet_of_same (HL.out _ _ (by omega))))
      go_wp2_with (go_at_call 32; refine (HD.out _ _ (by have := HW.out; simp [IntKind.wrap_u64] at this ⊢; omega)).mono ?_; rintro e w1 ⟨rfl, hb⟩; have HB1 : Hid (Below _ _ w1) := hb; clear hb)
      refine (formOf_r o ho1 ho2 _).mono ?_
      rintro e w2 ⟨⟨mm, hh, sx, rfl⟩, hb⟩
      have HA : Hid (At w (w2.alloc (frmO 82 51 mm hh sx)) B s mb n L w1.heap.size m gv ov o (0 : Nat) a b k) := at_mk HM.out HB1.out hb
      have x0 := HA.out.c0
      have x1 := HA.out.c1
      simp only [Int.natCast_zero] at x1
      have x2 := HA.out.c2
      have x3 := HA.out.c3
      have x4 := HA.out.c4
      have ra := HA.out.mac.core.reg a hal
      have rb := HA.out.mac.core.reg b hbl
      have rd := HA.out.mac.core.reg 0 hdl
      have fd := HA.out.mac.core.fs 0
      have f34 := HA.out.mac.core.fs 34
      have f36 := HA.out.mac.core.fs 36
      have y36 := HA.out.mac.core.way
      rw [H0.out] at y36
      have y34 := HA.out.mac.core.pc
      rw [HP.out] at y34
      clear hb
      go_wp2_with fail
      go_quiet (fail)
      go_wp2_with fail
      go_quiet (fail)
      go_wp2_with (go_at_call 34; refine (HA1.out _).mono ?_; rintro e w4 ⟨rfl, q4, rfl⟩)
      go_end0
      exact ⟨rfl, HA.out.past _ _⟩
    · rw [h8] at HW
      have h8' : (p : Int) % 8 = 4 := by omega
      go_enter Tryd.func10, Tryd.ntmps10
      go_wp2_with fail
      go_quiet ((go_at_call 12; exact Calls.quiet_of_same (HL.out _ _ (by omega))))
      go_wp2_with (go_at_call 32; refine (HD.out _ _ (by have := HW.out; simp [IntKind.wrap_u64] at this ⊢; omega)).mono ?_; rintro e w1 ⟨rfl, hb⟩; have HB1 : Hid (Below _ _ w1) := hb; clear hb)
      refine (formOf_r o ho1 ho2 _).mono ?_
      rintro e w2 ⟨⟨mm, hh, sx, rfl⟩, hb⟩
      have HA : Hid (At w (w2.alloc (frmO 82 51 mm hh sx)) B s mb n L w1.heap.size m gv ov o (0 : Nat) a b k) := at_mk HM.out HB1.out hb
      have x0 := HA.out.c0
      have x1 := HA.out.c1
      simp only [Int.natCast_zero] at x1
      have x2 := HA.out.c2
      have x3 := HA.out.c3
      have x4 := HA.out.c4
      have ra := HA.out.mac.core.reg a hal
      have rb := HA.out.mac.core.reg b hbl
      have rd := HA.out.mac.core.reg 0 hdl
      have fd := HA.out.mac.core.fs 0
      have f34 := HA.out.mac.core.fs 34
      have f36 := HA.out.mac.core.fs 36
      have y36 := HA.out.mac.core.way
      rw [H0.out] at y36
      have y34 := HA.out.mac.core.pc
      rw [HP.out] at y34
      clear hb
      go_wp2_with fail
      go_quiet (fail)
      go_wp2_with fail
      go_quiet (fail)
      go_wp2_with (go_at_call 34; refine (HA1.out _).mono ?_; rintro e w4 ⟨rfl, q4, rfl⟩)
      go_end0
      exact ⟨rfl, HA.out.past _ _⟩
  · have eW : writeV m (d : Int) (Alu.aluV o (m.R a) (m.R b)) = { m with R := upd m.R d (Alu.aluV o (m.R a) (m.R b)) } := by simp [writeV, hd0]
    rw [eW]
    have hd1 : 0 < d := by omega
    rcases (show p % 8 = 0 ∨ p % 8 = 4 by omega) with h8 | h8
    · rw [h8] at HW
      have h8' : (p : Int) % 8 = 0 := by omega
      go_enter Tryd.func10, Tryd.ntmps10
      go_wp2_with fail
      go_quiet ((go_at_call 12; exact Calls.quiet_of_same (HL.out _ _ (by omega))))
      go_wp2_with (go_at_call 32; refine (HD.out _ _ (by have := HW.out; simp [IntKind.wrap_u64] at this ⊢; omega)).mono ?_; rintro e w1 ⟨rfl, hb⟩; have HB1 : Hid (Below _ _ w1) := hb; clear hb)
      refine (formOf_r o ho1 ho2 _).mono ?_
      rintro e w2 ⟨⟨mm, hh, sx, rfl⟩, hb⟩
      have HA : Hid (At w (w2.alloc (frmO 82 51 mm hh sx)) B s mb n L w1.heap.size m gv ov o d a b k) := at_mk HM.out HB1.out hb
      have x0 := HA.out.c0
      have x1 := HA.out.c1
      have x2 := HA.out.c2
      have x3 := HA.out.c3
      have x4 := HA.out.c4
      have ra := HA.out.mac.core.reg a hal
      have rb := HA.out.mac.core.reg b hbl
      have rd := HA.out.mac.core.reg d hdl
      have fd := HA.out.mac.core.fs d
      have f34 := HA.out.mac.core.fs 34
      have f36 := HA.out.mac.core.fs 36
      have y36 := HA.out.mac.core.way
      rw [H0.out] at y36
      have y34 := HA.out.mac.core.pc
      rw [HP.out] at y34
      clear hb
      go_wp2_with fail
      go_quiet (fail)
      go_wp2_with fail
      go_quiet (fail)
      go_wp2_with (go_at_call 34; refine (HA1.out _).mono ?_; rintro e w4 ⟨rfl, q4, rfl⟩)
      go_region
      all_goals
        go_wp2
        go_end0
        exact ⟨rfl, HA.out.done hdl _ _ _⟩
    · rw [h8] at HW
      have h8' : (p : Int) % 8 = 4 := by omega
      go_enter Tryd.func10, Tryd.ntmps10
      go_wp2_with fail
      go_quiet ((go_at_call 12; exact Calls.quiet_of_same (HL.out _ _ (by omega))))
      go_wp2_with (go_at_call 32; refine (HD.out _ _ (by have := HW.out; simp [IntKind.wrap_u64] at this ⊢; omega)).mono ?_; rintro e w1 ⟨rfl, hb⟩; have HB1 : Hid (Below _ _ w1) := hb; clear hb)
      refine (formOf_r o ho1 ho2 _).mono ?_
      rintro e w2 ⟨⟨mm, hh, sx, rfl⟩, hb⟩
      have HA : Hid (At w (w2.alloc (frmO 82 51 mm hh sx)) B s mb n L w1.heap.size m gv ov o d a b k) := at_mk HM.out HB1.out hb
      have x0 := HA.out.c0
      have x1 := HA.out.c1
      have x2 := HA.out.c2
      have x3 := HA.out.c3
      have x4 := HA.out.c4
      have ra := HA.out.mac.core.reg a hal
      have rb := HA.out.mac.core.reg b hbl
      have rd := HA.out.mac.core.reg d hdl
      have fd := HA.out.mac.core.fs d
      have f34 := HA.out.mac.core.fs 34
      have f36 := HA.out.mac.core.fs 36
      have y36 := HA.out.mac.core.way
      rw [H0.out] at y36
      have y34 := HA.out.mac.core.pc
      rw [HP.out] at y34
      clear hb
      go_wp2_with fail
      go_quiet (fail)
      go_wp2_with fail
      go_quiet (fail)
      go_wp2_with (go_at_call 34; refine (HA1.out _).mono ?_; rintro e w4 ⟨rfl, q4, rfl⟩)
      go_region
      all_goals
        go_wp2
        go_end0
        exact ⟨rfl, HA.out.done hdl _ _ _⟩
end Go.Proofs.YtaodcpdkobhmfaaDoor
