/- Package machine's do, walked: Jalr, Jal. -/
import Derived.Test.YtbobbmkmfcdeeaaDoorH1
namespace Go.Proofs.YtbobbmkmfcdeeaaDoor
open Go Go.RowKit

set_option maxRecDepth 100000 in
set_option maxHeartbeats 2000000 in
theorem do_jalr (w : World) (B s mb L : Nat) (m : MS) (gv ov : Value) (d n : Int) (a b : Nat) (h : Mac w B s mb L m gv ov) (d0 : 0 ≤ d) (d1 : d < 32) (a1 : a < 32) (b1 : b < 32) :
    Calls Tryd.prog 31 #[.pointer (some ⟨s, 0, none⟩), instV 23 d a b n] w fun e w' => e = .returned (.int .i64 (bits .andNot .i64 (wrap64 (m.R a + n)) 1)) ∧ Post w B s mb L (writeV m d (wrap64 (m.pc + 4))) ov w' := by
  have HC : Hid (DoC (doW w s 23 d a b n) B s mb L w.heap.size m gv ov 23 d a b n) := doW_c h 23 d a b n
  have HB : Hid (Below w.heap.size w (doW w s 23 d a b n)) := doW_below w s 23 d a b n
  have HD : Hid (DoC (doW w s 23 d a b n).drew B s mb L w.heap.size m gv ov 23 d a b n) := HC.out.drew
  have p := HC.out.p
  have x0 := HC.out.x0
  have x2 := HC.out.x2
  have x3 := HC.out.x3
  have x4 := HC.out.x4
  have pc := HC.out.mac.core.pc
  have ra := HC.out.mac.core.reg a a1
  have rb := HC.out.mac.core.reg b b1
  have hs := h.core.s0
  have HZ : Hid (w.heap.size + 1 < (doW w s 23 d a b n).drew.heap.size) := by show _ < _; simp
  have HS : Hid (w.heap.size + 1 ≠ s) := by show _ ≠ _; omega
  generalize m.R a = x at *
  generalize m.R b = y at *
  clear h hs
  go_enter Tryd.func31, Tryd.ntmps31
  go_wp2_with fail
  go_region
  go_wp2_with (go_at_call 43; refine (write_any _ B s mb L _ _ m gv ov d _ HD.out.mac HD.out.x1 HD.out.p d0 d1).mono ?_; rintro e w' ⟨rfl, hm, ho⟩; have y4 : w'.cell? ⟨w.heap.size + 1, 4, none⟩ = some (.int .i64 n) := (ho.cell (p := ⟨w.heap.size + 1, 4, none⟩) HZ.out HS.out).trans HD.out.x4)
  go_ret
  exact ⟨rfl, Post.grown HB.out (Post.of hm (Off.ws ((Off.refl _ _).drew.trans ho)))⟩

theorem writeV_pc (m : MS) (d v : Int) : (writeV m d v).pc = m.pc := by unfold writeV; split <;> rfl

set_option maxRecDepth 100000 in
set_option maxHeartbeats 2000000 in
theorem do_jal (w : World) (B s mb L : Nat) (m : MS) (gv ov : Value) (d n : Int) (a b : Nat) (h : Mac w B s mb L m gv ov) (d0 : 0 ≤ d) (d1 : d < 32) (a1 : a < 32) (b1 : b < 32) :
    Calls Tryd.prog 31 #[.pointer (some ⟨s, 0, none⟩), instV 30 d a b n] w fun e w' => e = .returned (.int .i64 (wrap64 (m.pc + n))) ∧ Post w B s mb L (writeV m d (wrap64 (m.pc + 4))) ov w' := by
  have HC : Hid (DoC (doW w s 30 d a b n) B s mb L w.heap.size m gv ov 30 d a b n) := doW_c h 30 d a b n
  have HB : Hid (Below w.heap.size w (doW w s 30 d a b n)) := doW_below w s 30 d a b n
  have HD : Hid (DoC (doW w s 30 d a b n).drew B s mb L w.heap.size m gv ov 30 d a b n) := HC.out.drew
  have p := HC.out.p
  have x0 := HC.out.x0
  have x2 := HC.out.x2
  have x3 := HC.out.x3
  have x4 := HC.out.x4
  have pc := HC.out.mac.core.pc
  have ra := HC.out.mac.core.reg a a1
  have rb := HC.out.mac.core.reg b b1
  have hs := h.core.s0
  have HZ : Hid (w.heap.size + 1 < (doW w s 30 d a b n).drew.heap.size) := by show _ < _; simp
  have HS : Hid (w.heap.size + 1 ≠ s) := by show _ ≠ _; omega
  have HZ' : Hid (w.heap.size < (doW w s 30 d a b n).drew.heap.size) := by show _ < _; simp; omega
  have HS' : Hid (w.heap.size ≠ s) := by show _ ≠ _; omega
  generalize m.R a = x at *
  generalize m.R b = y at *
  clear h hs
  go_enter Tryd.func31, Tryd.ntmps31
  go_wp2_with fail
  go_region
  go_wp2_with (go_at_call 43; refine (write_any _ B s mb L _ _ m gv ov d _ HD.out.mac HD.out.x1 HD.out.p d0 d1).mono ?_; rintro e w' ⟨rfl, hm, ho⟩; have y4 : w'.cell? ⟨w.heap.size + 1, 4, none⟩ = some (.int .i64 n) := (ho.cell (p := ⟨w.heap.size + 1, 4, none⟩) HZ.out HS.out).trans HD.out.x4; have y0 : w'.cell? ⟨w.heap.size, 0, none⟩ = some (.pointer (some ⟨s, 0, none⟩)) := (ho.cell (p := ⟨w.heap.size, 0, none⟩) HZ'.out HS'.out).trans HD.out.p; have yp : w'.cell? ⟨s, 33, none⟩ = some (.int .i64 m.pc) := by (have := hm.core.pc; rw [writeV_pc] at this; exact this))
  have HM : Hid (Mac _ _ _ _ _ _ _ _) := hm
  have HO : Hid (Off _ _ _) := ho
  clear hm ho
  go_region
  go_wp2_with fail
  go_ret
  exact ⟨rfl, Post.grown HB.out (Post.of HM.out.drew (Off.ws ((Off.refl _ _).drew.trans HO.out).drew))⟩

end Go.Proofs.YtbobbmkmfcdeeaaDoor
