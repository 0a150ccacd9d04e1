/- Package machine's do, walked: branches. -/
import Derived.Test.YtbobbmkmfcdeeaaDoorH1
namespace Go.Proofs.YtbobbmkmfcdeeaaDoor
open Go Go.RowKit

set_option maxRecDepth 100000 in
set_option maxHeartbeats 2000000 in
theorem do_br (w : World) (B s mb L : Nat) (m : MS) (gv ov : Value) (o d n : Int) (a b : Nat) (h : Mac w B s mb L m gv ov) (ho : o = 25 ∨ o = 26 ∨ o = 27 ∨ o = 28) (a1 : a < 32) (b1 : b < 32) (hg : goesV o (m.R a) (m.R b) = true) :
    Calls Tryd.prog 31 #[.pointer (some ⟨s, 0, none⟩), instV o d a b n] w fun e w' => e = .returned (.int .i64 (wrap64 (m.pc + n))) ∧ Post w B s mb L m ov w' := by
  have HC : Hid (DoC (doW w s o d a b n) B s mb L w.heap.size m gv ov o d a b n) := doW_c h o d a b n
  have HB : Hid (Below w.heap.size w (doW w s o d a b n)) := doW_below w s o d a b n
  have HD : Hid (DoC (doW w s o d a b n).drew B s mb L w.heap.size m gv ov o d a b n) := HC.out.drew
  have p := HC.out.p
  have x0 := HC.out.x0
  have x2 := HC.out.x2
  have x3 := HC.out.x3
  have x4 := HC.out.x4
  have pc := HC.out.mac.core.pc
  have ra := HC.out.mac.core.reg a a1
  have rb := HC.out.mac.core.reg b b1
  have hs := h.core.s0
  have o1 : 25 ≤ o := by omega
  have o2 : o ≤ 28 := by omega
  have HO : Hid (o = 25 ∨ o = 26 ∨ o = 27 ∨ o = 28) := ho
  have HG : Hid (goesV o (m.R a) (m.R b) = true) := hg
  clear ho hg
  generalize m.R a = x at *
  generalize m.R b = y at *
  clear h hs
  go_enter Tryd.func31, Tryd.ntmps31
  go_wp2_with fail
  go_region
  go_wp2_with (go_at_call 46; refine (goes_any _ _ _ _ HO.out).mono ?_; rw [HG.out]; rintro e w' ⟨rfl, hb⟩; have HE : Hid (Below _ _ w') := hb; have y4 : w'.cell? ⟨w.heap.size + 1, 4, none⟩ = some (.int .i64 n) := (hb.cell (p := ⟨w.heap.size + 1, 4, none⟩) (block_lt_of_cell HD.out.x4)).trans HD.out.x4; have y0 : w'.cell? ⟨w.heap.size, 0, none⟩ = some (.pointer (some ⟨s, 0, none⟩)) := (hb.cell (p := ⟨w.heap.size, 0, none⟩) (block_lt_of_cell HD.out.p)).trans HD.out.p; have yp : w'.cell? ⟨s, 33, none⟩ = some (.int .i64 m.pc) := (hb.cell (p := ⟨s, 33, none⟩) (block_lt_of_cell HD.out.mac.core.pc)).trans HD.out.mac.core.pc; clear hb)
  go_region
  go_wp2_with fail
  go_ret
  exact ⟨rfl, Post.grown HB.out (Post.of (HD.out.mac.grown HE.out).drew ((Off.refl _ _).drew.trans (Off.of_below HE.out)).drew)⟩

set_option maxRecDepth 100000 in
set_option maxHeartbeats 2000000 in
theorem do_br_no (w : World) (B s mb L : Nat) (m : MS) (gv ov : Value) (o d n : Int) (a b : Nat) (h : Mac w B s mb L m gv ov) (ho : o = 25 ∨ o = 26 ∨ o = 27 ∨ o = 28) (a1 : a < 32) (b1 : b < 32) (hg : goesV o (m.R a) (m.R b) = false) :
    Calls Tryd.prog 31 #[.pointer (some ⟨s, 0, none⟩), instV o d a b n] w fun e w' => e = .returned (.int .i64 (wrap64 (m.pc + 4))) ∧ Post w B s mb L m ov w' := by
  have HC : Hid (DoC (doW w s o d a b n) B s mb L w.heap.size m gv ov o d a b n) := doW_c h o d a b n
  have HB : Hid (Below w.heap.size w (doW w s o d a b n)) := doW_below w s o d a b n
  have HD : Hid (DoC (doW w s o d a b n).drew B s mb L w.heap.size m gv ov o d a b n) := HC.out.drew
  have p := HC.out.p
  have x0 := HC.out.x0
  have x2 := HC.out.x2
  have x3 := HC.out.x3
  have x4 := HC.out.x4
  have pc := HC.out.mac.core.pc
  have ra := HC.out.mac.core.reg a a1
  have rb := HC.out.mac.core.reg b b1
  have hs := h.core.s0
  have o1 : 25 ≤ o := by omega
  have o2 : o ≤ 28 := by omega
  have HO : Hid (o = 25 ∨ o = 26 ∨ o = 27 ∨ o = 28) := ho
  have HG : Hid (goesV o (m.R a) (m.R b) = false) := hg
  clear ho hg
  generalize m.R a = x at *
  generalize m.R b = y at *
  clear h hs
  go_enter Tryd.func31, Tryd.ntmps31
  go_wp2_with fail
  go_region
  go_wp2_with (go_at_call 46; refine (goes_any _ _ _ _ HO.out).mono ?_; rw [HG.out]; rintro e w' ⟨rfl, hb⟩; have HE : Hid (Below _ _ w') := hb; have y4 : w'.cell? ⟨w.heap.size + 1, 4, none⟩ = some (.int .i64 n) := (hb.cell (p := ⟨w.heap.size + 1, 4, none⟩) (block_lt_of_cell HD.out.x4)).trans HD.out.x4; have y0 : w'.cell? ⟨w.heap.size, 0, none⟩ = some (.pointer (some ⟨s, 0, none⟩)) := (hb.cell (p := ⟨w.heap.size, 0, none⟩) (block_lt_of_cell HD.out.p)).trans HD.out.p; have yp : w'.cell? ⟨s, 33, none⟩ = some (.int .i64 m.pc) := (hb.cell (p := ⟨s, 33, none⟩) (block_lt_of_cell HD.out.mac.core.pc)).trans HD.out.mac.core.pc; clear hb)
  go_ret
  exact ⟨rfl, Post.grown HB.out (Post.of (HD.out.mac.grown HE.out) ((Off.refl _ _).drew.trans (Off.of_below HE.out)))⟩

end Go.Proofs.YtbobbmkmfcdeeaaDoor
