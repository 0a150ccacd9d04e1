/- The law's sameMachine: the program's machine and the document's, with one state. -/
import Derived.Test.YtaodcpdkobhmfaaDoorMG
import Derived.Test.YtaodcpdkobhmfaaDoorMI
import Derived.Test.YtaodcpdkobhmfaaDoorMK
namespace Go.Proofs.YtaodcpdkobhmfaaDoor
open Go Go.RowKit

/-- Both machines are there. -/
structure Both (w : World) (L B1 s1 mb1 B2 s2 mb2 n : Nat) (m : MS) (gv1 ov1 gv2 ov2 : Value) : Prop where
  a : Mac w B1 s1 mb1 L m gv1 ov1
  b : DMac w B2 s2 mb2 n L m gv2 ov2

theorem Both.grown {w w' : World} {L B1 s1 mb1 B2 s2 mb2 n : Nat} {m : MS} {gv1 ov1 gv2 ov2 : Value} (h : Both w L B1 s1 mb1 B2 s2 mb2 n m gv1 ov1 gv2 ov2) (hb : Below w.heap.size w w') : Both w' L B1 s1 mb1 B2 s2 mb2 n m gv1 ov1 gv2 ov2 := ⟨h.a.grown hb, h.b.grown hb⟩


set_option maxRecDepth 100000 in
set_option maxHeartbeats 2000000 in
theorem same_mac (w : World) (L B1 s1 mb1 B2 s2 mb2 n : Nat) (m : MS) (gv1 ov1 gv2 ov2 : Value) (h : Both w L B1 s1 mb1 B2 s2 mb2 n m gv1 ov1 gv2 ov2) :
    Calls Tryd.prog 11 #[.pointer (some ⟨s1, 0, none⟩), .pointer (some ⟨s2, 0, none⟩)] w fun e w' => e = .returned (.bool true) ∧ Below w.heap.size w w' := by
  obtain ⟨q2, c2, ho2⟩ := h.b.ovform
  have HX : Hid (Both w L B1 s1 mb1 B2 s2 mb2 n m gv1 ov1 gv2 ov2) := h
  have HPC : Hid (∀ w', Below w.heap.size w w' → Calls Tryd.prog 22 #[.pointer (some ⟨s1, 0, none⟩)] w' fun e w'' => e = .returned (.int .i64 m.pc) ∧ w'' = w') := fun w' hb => pc_any w' s1 m.pc (h.a.grown hb).core.pc
  have HEN : Hid (∀ w', Below w.heap.size w w' → Calls Tryd.prog 24 #[.pointer (some ⟨s1, 0, none⟩)] w' fun e w'' => ∃ v', e = .returned (.agg #[.int .i64 m.way, .int .i64 m.code, v']) ∧ Rd w'' v' m.out ∧ Below w.heap.size w w'') := fun w' hb => (end_any w' B1 s1 mb1 L m gv1 ov1 (h.a.grown hb)).mono fun e w'' ⟨v', h1, h2, h3⟩ => ⟨v', h1, Rd.of_own h2, hb.trans (h3.mono hb.size)⟩
  have HSE : Hid (∀ w' v', Below w.heap.size w w' → Rd w' v' m.out → Calls Tryd.prog 16 #[.agg #[.int .i64 m.way, .int .i64 m.code, v'], .agg #[.int .i64 m.way, .int .i64 m.code, .slice q2 m.out.length c2]] w' fun e w'' => e = .returned (.bool true) ∧ Below w.heap.size w w'') := fun w' v' hb hr =>
    (ends_same w' m.way m.code v' _ m.out hr (by rw [← ho2]; exact Rd.of_own (h.b.grown hb).own) (by have := h.b.o2; omega)).mono fun e w'' ⟨h1, h2⟩ => ⟨h1, hb.trans (h2.mono hb.size)⟩
  have HC2 : Hid (∀ w', Below w.heap.size w w' → w'.cell? ⟨s2, 34, none⟩ = some (.int .i64 m.pc) ∧ w'.cell? ⟨s2, 36, none⟩ = some (.int .i64 m.way) ∧ w'.cell? ⟨s2, 37, none⟩ = some (.int .i64 m.code) ∧ w'.cell? ⟨s2, 38, none⟩ = some (.slice q2 m.out.length c2)) := fun w' hb => by
    have hx := (h.b.grown hb).core
    exact ⟨hx.pc, hx.way, hx.cod, by rw [hx.out, ho2]⟩
  have k34 := h.b.core.pc
  have k36 := h.b.core.way
  have k37 := h.b.core.cod
  have k38 := h.b.core.out
  rw [ho2] at k38
  clear h ho2
  generalize m.pc = x at *
  generalize m.way = y at *
  generalize m.code = z at *
  generalize m.out.length = k at *
  go_enter Tryd.func11, Tryd.ntmps11
  go_wp2_with fail
  go_region_with (first
    | (go_at_call 22; refine (HPC.out _ (by first | exact Below.refl _ _ | exact (Below.refl _ _).drew)).mono ?_; rintro e w1 ⟨rfl, rfl⟩)
    | (go_at_call 24; refine (HEN.out _ (by first | exact Below.refl _ _ | exact (Below.refl _ _).drew)).mono ?_; rintro e w3 ⟨v', rfl, hr, hb⟩; obtain ⟨q', c', e3, _⟩ := id hr; have HR : Hid (Rd w3 v' m.out) := hr; have HB3 : Hid (Below w.heap.size w w3) := hb; obtain ⟨j34, j36, j37, j38⟩ := HC2.out _ hb; subst e3; clear hr hb)
    | (go_at_call 16; refine (HSE.out _ _ HB3.out HR.out).mono ?_; rintro e w5 ⟨rfl, hb5⟩; have HB5 : Hid (Below w.heap.size w w5) := hb5; clear hb5)
    | go_in)
  all_goals
    clear HPC HEN HSE HC2 HR HB3 k34 k36 k37 k38 j34 j36 j37 j38
    go_wp2_with fail
    go_loopw [5] (fun i wr => ∃ j : Nat, j ≤ 32 ∧ i = .int .i64 j ∧ Hid (Below w.heap.size w wr)) (fun i _ => 32 - (intOf i).toNat)
    case atStart => exact ⟨0, by omega, rfl, by first | exact HB5.out | exact HB5.out.drew⟩
    case round =>
      obtain ⟨j, hj, rfl, hb⟩ := hrel
      have HXr : Hid (Both wr L B1 s1 mb1 B2 s2 mb2 n m gv1 ov1 gv2 ov2) := HX.out.grown hb.out
      by_cases hlt : j < 32
      · have rj := HXr.out.b.core.reg j hlt
        have HR1 : Hid (∀ q, Calls Tryd.prog 23 #[.pointer (some ⟨s1, 0, none⟩), .int .i64 (j : Int)] (wr.drewN q) fun e w' => e = .returned (.int .i64 (m.R j)) ∧ w' = wr.drewN q) := fun q => reg_any _ s1 m.R j hlt (HXr.out.a.core.reg j hlt)
        generalize m.R j = x at *
        go_wp2_with fail
        go_quiet ((go_at_call 23; exact Calls.quiet_of_same (HR1.out _)))
        go_wp2_with fail
        exact ⟨⟨j + 1, by omega, by go_num, below_drewN hb.out _⟩, by simp [intOf]; omega⟩
      · have e : j = 32 := by omega
        subst e
        go_wp2_with (go_at_call 23; fail)
        refine (reg_none _ s1 (-1) (by omega)).mono ?_
        rintro e wr ⟨rfl, rfl⟩
        go_wp2_with (go_at_call 23; fail)
        refine (reg_none _ s1 32 (by omega)).mono ?_
        rintro e wr ⟨rfl, rfl⟩
        go_wp2
        go_ret
        exact ⟨rfl, hb.out⟩
end Go.Proofs.YtaodcpdkobhmfaaDoor
