/- Package machine's do and Step, whole: what a step does, as a function. -/
import Derived.Test.YtaodcpdkobhmfaaDoorMH
namespace Go.Proofs.YtaodcpdkobhmfaaDoor
open Go Go.RowKit

/-- What an instruction does, and where it goes on. -/
def doV (L : Nat) (m : MS) (i : In) : MS × Int :=
  if i.o ≤ 13 then (writeV m i.d (Alu.aluV i.o (m.R i.a.toNat) (m.R i.b.toNat)), wrap64 (m.pc + 4))
  else if i.o ≤ 21 then (writeV m i.d (Alu.aluV i.o (m.R i.a.toNat) i.n), wrap64 (m.pc + 4))
  else if i.o = 22 then (if hasB L (wrap64 (m.R i.a.toNat + i.n)) 8 then writeV m i.d (wrap64 (gthTo m.M (wrap64 (m.R i.a.toNat + i.n)).toNat 8)) else { m with way := 9, code := 0 }, wrap64 (m.pc + 4))
  else if i.o = 23 then (writeV m i.d (wrap64 (m.pc + 4)), bits .andNot .i64 (wrap64 (m.R i.a.toNat + i.n)) 1)
  else if i.o = 24 then (if hasB L (wrap64 (m.R i.a.toNat + i.n)) 8 then { m with M := layTo m.M (wrap64 (m.R i.a.toNat + i.n)).toNat (m.R i.b.toNat % 18446744073709551616) 8 } else { m with way := 9, code := 0 }, wrap64 (m.pc + 4))
  else if i.o = 29 then (writeV m i.d i.n, wrap64 (m.pc + 4))
  else if i.o = 30 then (writeV m i.d (wrap64 (m.pc + 4)), wrap64 (m.pc + i.n))
  else if i.o = 31 then (callV m, wrap64 (m.pc + 4))
  else (m, if goesV i.o (m.R i.a.toNat) (m.R i.b.toNat) then wrap64 (m.pc + i.n) else wrap64 (m.pc + 4))

theorem In.parts {i : In} (h : i.rt = true) : 1 ≤ i.o ∧ i.o ≤ 31 ∧ (0 ≤ i.d ∧ i.d < 32) ∧ (0 ≤ i.a ∧ i.a < 32) ∧ (0 ≤ i.b ∧ i.b < 32) := by
  obtain ⟨h1, h2, h3⟩ := Rt_split h
  simp only [rightB, Bool.and_eq_true] at h3
  exact ⟨h1, h2, fit_any _ _ h3.1.1.1, fit_any _ _ h3.1.1.2, fit_any _ _ h3.1.2⟩

theorem do_any (w : World) (B s mb L : Nat) (m : MS) (gv ov : Value) (i : In) (h : Mac w B s mb L m gv ov) (hr : i.rt = true) :
    Calls Tryd.prog 31 #[.pointer (some ⟨s, 0, none⟩), i.v] w fun e w' => e = .returned (.int .i64 (doV L m i).2) ∧ Post w B s mb L (doV L m i).1 ov w' := by
  obtain ⟨o1, o2, ⟨d0, d1⟩, ⟨a0, a1⟩, ⟨b0, b1⟩⟩ := In.parts hr
  obtain ⟨o, d, a, b, n⟩ := i
  simp only at o1 o2 d0 d1 a0 a1 b0 b1
  obtain ⟨a, rfl⟩ := Int.eq_ofNat_of_zero_le a0
  obtain ⟨b, rfl⟩ := Int.eq_ofNat_of_zero_le b0
  have a1' : a < 32 := by omega
  have b1' : b < 32 := by omega
  unfold doV
  simp only [Int.toNat_natCast]
  clear hr
  by_cases c1 : o ≤ 13
  · rw [if_pos c1]; exact do_r w B s mb L m gv ov o d n a b h c1 d0 d1 a1' b1'
  rw [if_neg c1]
  by_cases c2 : o ≤ 21
  · rw [if_pos c2]; exact do_i w B s mb L m gv ov o d n a b h (by omega) c2 d0 d1 a1' b1'
  rw [if_neg c2]
  by_cases c3 : o = 22
  · subst c3
    rw [if_pos rfl]
    cases hh : hasB L (wrap64 (m.R a + n)) 8 with
    | true => exact do_ld w B s mb L m gv ov d n a b h d0 d1 a1' b1' hh
    | false => exact do_ld_no w B s mb L m gv ov d n a b h a1' b1' hh
  rw [if_neg c3]
  by_cases c4 : o = 23
  · subst c4; rw [if_pos rfl]; exact do_jalr w B s mb L m gv ov d n a b h d0 d1 a1' b1'
  rw [if_neg c4]
  by_cases c5 : o = 24
  · subst c5
    rw [if_pos rfl]
    cases hh : hasB L (wrap64 (m.R a + n)) 8 with
    | true => exact do_sd w B s mb L m gv ov d n a b h a1' b1' hh
    | false => exact do_sd_no w B s mb L m gv ov d n a b h a1' b1' hh
  rw [if_neg c5]
  by_cases c6 : o = 29
  · subst c6; rw [if_pos rfl]; exact do_lui w B s mb L m gv ov d n a b h d0 d1 a1' b1'
  rw [if_neg c6]
  by_cases c7 : o = 30
  · subst c7; rw [if_pos rfl]; exact do_jal w B s mb L m gv ov d n a b h d0 d1 a1' b1'
  rw [if_neg c7]
  by_cases c8 : o = 31
  · subst c8; rw [if_pos rfl]; exact do_ecall w B s mb L m gv ov d n a b h a1' b1'
  rw [if_neg c8]
  cases hg : goesV o (m.R a) (m.R b) with
  | true => exact do_br w B s mb L m gv ov o d n a b h (by omega) a1' b1' hg
  | false => exact do_br_no w B s mb L m gv ov o d n a b h (by omega) a1' b1' hg

/-- What a Step does. -/
def stepV (L : Nat) (m : MS) : MS :=
  if m.way = 0 then
    match fetV L m.M m.pc with
    | none => { m with way := 9, code := 0 }
    | some i => if (doV L m i).1.way = 0 then { (doV L m i).1 with pc := (doV L m i).2 } else (doV L m i).1
  else m

theorem fetV_rt {L : Nat} {M : Nat → Int} {pc : Int} {i : In} (h : fetV L M pc = some i) : i.rt = true := by
  unfold fetV at h
  split at h
  · exact (decV_some h).1
  · cases h

set_option maxRecDepth 100000 in
set_option maxHeartbeats 1000000 in
theorem step_ended (w : World) (B s mb L : Nat) (m : MS) (gv ov : Value) (h : Mac w B s mb L m gv ov) (h0 : m.way ≠ 0) :
    Calls Tryd.prog 9 #[.pointer (some ⟨s, 0, none⟩)] w fun e w' => e = .returned (.tuple #[]) ∧ Post w B s mb L m ov w' := by
  have HM : Hid (Mac w B s mb L m gv ov) := h
  have hw := h.core.way
  generalize m.way = x at *
  clear h
  go_enter Tryd.func9, Tryd.ntmps9
  go_wp2_with fail
  refine bodyPost_ret (results_none rfl _ _ _) rfl ?_
  exact ⟨rfl, Post.of HM.out (Off.refl _ _)⟩

set_option maxRecDepth 100000 in
set_option maxHeartbeats 1000000 in
theorem step_fault (w : World) (B s mb L : Nat) (m : MS) (gv ov : Value) (h : Mac w B s mb L m gv ov) (ht : Tabs T w) (h0 : m.way = 0) (hf : fetV L m.M m.pc = none) :
    Calls Tryd.prog 9 #[.pointer (some ⟨s, 0, none⟩)] w fun e w' => e = .returned (.tuple #[]) ∧ Post w B s mb L { m with way := 9, code := 0 } ov w' := by
  have HM : Hid (Mac w B s mb L m gv ov) := h
  have HF : Hid (Calls Tryd.prog 29 #[.pointer (some ⟨s, 0, none⟩)] w fun e w' => e = .returned (.tuple #[instV 0 0 0 0 0, .bool false]) ∧ Below w.heap.size w w') := fetch_none w s mb L m gv ov h.core ht hf
  have hw := h.core.way
  rw [h0] at hw
  clear h hf h0
  go_enter Tryd.func9, Tryd.ntmps9
  go_wp2_with (go_at_call 29; refine HF.out.mono ?_; rintro e w' ⟨rfl, hb⟩; have HE : Hid (Below w.heap.size w w') := hb; have HN : Hid (Mac w' B s mb L m gv ov) := HM.out.grown hb; clear hb)
  have HA : Hid (Mac (w'.alloc (.cells #[.int .i64 0, .int .i64 0, .int .i64 0, .int .i64 0, .int .i64 0] 71)) B s mb L m gv ov) := HN.out.grown ((Below.refl _ _).alloc (Nat.le_refl _) _)
  refine (stop_any _ s _ _ _ _ HA.out.core.way HA.out.core.cod HA.out.core.fs).mono ?_
  rintro e w2 ⟨rfl, rfl⟩
  go_wp2_with fail
  refine bodyPost_ret (results_none rfl _ _ _) rfl ?_
  exact ⟨rfl, Post.grown (HE.out.alloc HE.out.size _) (Post.stop HA.out 9 0)⟩

set_option maxRecDepth 100000 in
set_option maxHeartbeats 1000000 in
theorem step_go (w : World) (B s mb L : Nat) (m m' : MS) (gv ov : Value) (i : In) (z : Int) (h : Mac w B s mb L m gv ov) (ht : Tabs T w) (h0 : m.way = 0) (hf : fetV L m.M m.pc = some i)
    (hy : m'.way = 0) (hd : ∀ w, Mac w B s mb L m gv ov → Calls Tryd.prog 31 #[.pointer (some ⟨s, 0, none⟩), instV i.o i.d i.a i.b i.n] w fun e w' => e = .returned (.int .i64 z) ∧ Post w B s mb L m' ov w') :
    Calls Tryd.prog 9 #[.pointer (some ⟨s, 0, none⟩)] w fun e w' => e = .returned (.tuple #[]) ∧ Post w B s mb L { m' with pc := z } ov w' := by
  have HM : Hid (Mac w B s mb L m gv ov) := h
  have HF : Hid (Calls Tryd.prog 29 #[.pointer (some ⟨s, 0, none⟩)] w fun e w' => e = .returned (.tuple #[instV i.o i.d i.a i.b i.n, .bool true]) ∧ Below w.heap.size w w') := fetch_some w s mb L m gv ov i h.core ht hf
  have HD : Hid (∀ w, Mac w B s mb L m gv ov → Calls Tryd.prog 31 #[.pointer (some ⟨s, 0, none⟩), instV i.o i.d i.a i.b i.n] w fun e w' => e = .returned (.int .i64 z) ∧ Post w B s mb L m' ov w') := hd
  have HY : Hid (m'.way = 0) := hy
  have hw := h.core.way
  rw [h0] at hw
  clear h hf h0 hd hy
  generalize i.o = o at *
  generalize i.d = d at *
  generalize i.a = a at *
  generalize i.b = b at *
  generalize i.n = n at *
  go_enter Tryd.func9, Tryd.ntmps9
  go_wp2_with (first
    | (go_at_call 29; refine HF.out.mono ?_; rintro e w' ⟨rfl, hb⟩; have HE : Hid (Below w.heap.size w w') := hb; have HN : Hid (Mac w' B s mb L m gv ov) := HM.out.grown hb; clear hb)
    | (go_at_call 31; fail))
  have HA : Hid (Mac (w'.alloc (.cells #[.int .i64 o, .int .i64 d, .int .i64 a, .int .i64 b, .int .i64 n] 71)) B s mb L m gv ov) := HN.out.grown ((Below.refl _ _).alloc (Nat.le_refl _) _)
  have HB : Hid (Below w.heap.size w (w'.alloc (.cells #[.int .i64 o, .int .i64 d, .int .i64 a, .int .i64 b, .int .i64 n] 71))) := HE.out.alloc HE.out.size _
  refine (HD.out _ HA.out).mono ?_
  rintro e w2 ⟨rfl, gv2, ov2, hm, ho, hk⟩
  have HM2 : Hid (Mac w2 B s mb L m' gv2 ov2) := hm
  have HK : Hid (∀ k, ov2.ownBlock = some k → ov.ownBlock = some k ∨ (w'.alloc (.cells #[.int .i64 o, .int .i64 d, .int .i64 a, .int .i64 b, .int .i64 n] 71)).heap.size ≤ k) := hk
  have HO : Hid (Off (Ws s mb ov) (w'.alloc (.cells #[.int .i64 o, .int .i64 d, .int .i64 a, .int .i64 b, .int .i64 n] 71)) w2) := ho
  have c35 := hm.core.way
  have c33 := hm.core.pc
  have f33 := hm.core.fs 33
  clear hm hk ho
  rw [HY.out] at c35
  go_wp2_with fail
  go_end0
  exact ⟨rfl, Post.grown HB.out (Post.trans HO.out HK.out (Post.of (HM2.out.setPc z) (off_s _ _).ws))⟩

set_option maxRecDepth 100000 in
set_option maxHeartbeats 1000000 in
theorem step_end (w : World) (B s mb L : Nat) (m m' : MS) (gv ov : Value) (i : In) (z : Int) (h : Mac w B s mb L m gv ov) (ht : Tabs T w) (h0 : m.way = 0) (hf : fetV L m.M m.pc = some i)
    (hy : m'.way ≠ 0) (hd : ∀ w, Mac w B s mb L m gv ov → Calls Tryd.prog 31 #[.pointer (some ⟨s, 0, none⟩), instV i.o i.d i.a i.b i.n] w fun e w' => e = .returned (.int .i64 z) ∧ Post w B s mb L m' ov w') :
    Calls Tryd.prog 9 #[.pointer (some ⟨s, 0, none⟩)] w fun e w' => e = .returned (.tuple #[]) ∧ Post w B s mb L m' ov w' := by
  have HM : Hid (Mac w B s mb L m gv ov) := h
  have HF : Hid (Calls Tryd.prog 29 #[.pointer (some ⟨s, 0, none⟩)] w fun e w' => e = .returned (.tuple #[instV i.o i.d i.a i.b i.n, .bool true]) ∧ Below w.heap.size w w') := fetch_some w s mb L m gv ov i h.core ht hf
  have HD : Hid (∀ w, Mac w B s mb L m gv ov → Calls Tryd.prog 31 #[.pointer (some ⟨s, 0, none⟩), instV i.o i.d i.a i.b i.n] w fun e w' => e = .returned (.int .i64 z) ∧ Post w B s mb L m' ov w') := hd
  have HY : Hid (m'.way ≠ 0) := hy
  have hw := h.core.way
  rw [h0] at hw
  clear h hf h0 hd hy
  generalize i.o = o at *
  generalize i.d = d at *
  generalize i.a = a at *
  generalize i.b = b at *
  generalize i.n = n at *
  go_enter Tryd.func9, Tryd.ntmps9
  go_wp2_with (first
    | (go_at_call 29; refine HF.out.mono ?_; rintro e w' ⟨rfl, hb⟩; have HE : Hid (Below w.heap.size w w') := hb; have HN : Hid (Mac w' B s mb L m gv ov) := HM.out.grown hb; clear hb)
    | (go_at_call 31; fail))
  have HA : Hid (Mac (w'.alloc (.cells #[.int .i64 o, .int .i64 d, .int .i64 a, .int .i64 b, .int .i64 n] 71)) B s mb L m gv ov) := HN.out.grown ((Below.refl _ _).alloc (Nat.le_refl _) _)
  have HB : Hid (Below w.heap.size w (w'.alloc (.cells #[.int .i64 o, .int .i64 d, .int .i64 a, .int .i64 b, .int .i64 n] 71))) := HE.out.alloc HE.out.size _
  refine (HD.out _ HA.out).mono ?_
  rintro e w2 ⟨rfl, gv2, ov2, hm, ho, hk⟩
  have HM2 : Hid (Mac w2 B s mb L m' gv2 ov2) := hm
  have HK : Hid (∀ k, ov2.ownBlock = some k → ov.ownBlock = some k ∨ (w'.alloc (.cells #[.int .i64 o, .int .i64 d, .int .i64 a, .int .i64 b, .int .i64 n] 71)).heap.size ≤ k) := hk
  have HO : Hid (Off (Ws s mb ov) (w'.alloc (.cells #[.int .i64 o, .int .i64 d, .int .i64 a, .int .i64 b, .int .i64 n] 71)) w2) := ho
  have c35 := hm.core.way
  clear hm hk ho
  have hy := HY.out
  clear HY
  generalize m'.way = y at *
  go_wp2_with fail
  go_end0
  exact ⟨rfl, Post.grown HB.out (Post.trans HO.out HK.out (Post.of HM2.out (Off.refl _ _)))⟩

/-- A Step, whatever the machine has. -/
theorem step_any (w : World) (B s mb L : Nat) (m : MS) (gv ov : Value) (h : Mac w B s mb L m gv ov) (ht : Tabs T w) :
    Calls Tryd.prog 9 #[.pointer (some ⟨s, 0, none⟩)] w fun e w' => e = .returned (.tuple #[]) ∧ Post w B s mb L (stepV L m) ov w' := by
  unfold stepV
  by_cases h0 : m.way = 0
  · rw [if_pos h0]
    cases hf : fetV L m.M m.pc with
    | none => exact step_fault w B s mb L m gv ov h ht h0 hf
    | some i =>
      by_cases hy : (doV L m i).1.way = 0
      · dsimp only
        rw [if_pos hy]
        exact step_go w B s mb L m (doV L m i).1 gv ov i (doV L m i).2 h ht h0 hf hy fun w h => do_any w B s mb L m gv ov i h (fetV_rt hf)
      · dsimp only
        rw [if_neg hy]
        exact step_end w B s mb L m (doV L m i).1 gv ov i (doV L m i).2 h ht h0 hf hy fun w h => do_any w B s mb L m gv ov i h (fetV_rt hf)
  · rw [if_neg h0]; exact step_ended w B s mb L m gv ov h h0

/-- The tables are there behind it. -/
theorem Post.tabs {w w' : World} {B s mb L : Nat} {m m' : MS} {gv ov : Value} (h : Mac w B s mb L m gv ov) (ht : Tabs T w) (hp : Post w B s mb L m' ov w') : Tabs T w' := by
  obtain ⟨_, _, _, ho, _⟩ := hp
  have b1 := h.B1
  have b2 := h.Bs
  have b3 := h.Bm
  refine ht.off ho ?_ ?_
  · rintro (e | e | e)
    · omega
    · omega
    · have := (h.ob e).1; omega
  · rintro (e | e | e)
    · omega
    · omega
    · have := (h.ob e).1; omega
end Go.Proofs.YtaodcpdkobhmfaaDoor
