/- Package machine's do, walked: ops that reckon. Package machine's do, walked: ops that reckon with a number; Lui. Package machine's do, walked: Ld. Package machine's do, walked: Sd. Package machine's call: it ends; a number is taken. Package machine's do, walked: Ecall. Package machine's do, walked: Jalr, Jal. Package machine's do, walked: branches. -/
import Derived.Test.YtaodcpdkobhmfaaDoorMF
namespace Go.Proofs.YtaodcpdkobhmfaaDoor
open Go Go.RowKit

/-- A register is written, but 0. -/
def writeV (m : MS) (d v : Int) : MS := if d = 0 then m else { m with R := upd m.R d.toNat v }

theorem write_any (w : World) (B s mb L g1 g2 : Nat) (m : MS) (gv ov : Value) (d v : Int) (h : Mac w B s mb L m gv ov) (h1 : w.cell? ⟨g1, 1, none⟩ = some (.int .i64 d)) (h2 : w.cell? ⟨g2, 0, none⟩ = some (.pointer (some ⟨s, 0, none⟩))) (d0 : 0 ≤ d) (d1 : d < 32) :
    Calls Tryd.prog 43 #[.int .i64 v, .pointer (some ⟨g1, 0, none⟩), .pointer (some ⟨g2, 0, none⟩)] w fun e w' => e = .returned (.tuple #[]) ∧ Mac w' B s mb L (writeV m d v) gv ov ∧ Off (· = s) w w' := by
  unfold writeV
  by_cases hd : d = 0
  · subst hd
    refine (write_zero w g1 g2 v h1).mono ?_
    rintro e w' ⟨rfl, rfl⟩
    rw [if_pos rfl]
    exact ⟨rfl, h, Off.refl _ _⟩
  · obtain ⟨d, rfl⟩ := Int.eq_ofNat_of_zero_le d0
    refine (write_some w g1 g2 s d v _ h1 h2 (by omega) (by omega) (h.core.reg d (by omega)) (h.core.fs d)).mono ?_
    rintro e w' ⟨rfl, rfl⟩
    rw [if_neg hd]
    exact ⟨rfl, (h.setReg d (by omega) v).drew, (off_s _ _).drew⟩

abbrev doW (w : World) (s : Nat) (o d a b n : Int) : World := (w.alloc (.cells #[.pointer (some ⟨s, 0, none⟩)] 28)).alloc (.cells #[.int .i64 o, .int .i64 d, .int .i64 a, .int .i64 b, .int .i64 n] 71)

theorem doW_below (w : World) (s : Nat) (o d a b n : Int) : Below w.heap.size w (doW w s o d a b n) := ((Below.refl _ _).alloc (Nat.le_refl _) _).alloc (by simp) _

/-- What the walk of do asks of its world. -/
structure DoC (W : World) (B s mb L g : Nat) (m : MS) (gv ov : Value) (o d a b n : Int) : Prop where
  mac : Mac W B s mb L m gv ov
  p : W.cell? ⟨g, 0, none⟩ = some (.pointer (some ⟨s, 0, none⟩))
  x0 : W.cell? ⟨g + 1, 0, none⟩ = some (.int .i64 o)
  x1 : W.cell? ⟨g + 1, 1, none⟩ = some (.int .i64 d)
  x2 : W.cell? ⟨g + 1, 2, none⟩ = some (.int .i64 a)
  x3 : W.cell? ⟨g + 1, 3, none⟩ = some (.int .i64 b)
  x4 : W.cell? ⟨g + 1, 4, none⟩ = some (.int .i64 n)

theorem doW_c {w : World} {B s mb L : Nat} {m : MS} {gv ov : Value} (h : Mac w B s mb L m gv ov) (o d a b n : Int) : DoC (doW w s o d a b n) B s mb L w.heap.size m gv ov o d a b n := by
  have r1 : (doW w s o d a b n).heap[w.heap.size]? = some (.cells #[.pointer (some ⟨s, 0, none⟩)] 28) := heap_alloc2_old _ _ _
  have r2 : (doW w s o d a b n).heap[w.heap.size + 1]? = some (.cells #[.int .i64 o, .int .i64 d, .int .i64 a, .int .i64 b, .int .i64 n] 71) := heap_alloc2_new _ _ _
  exact ⟨h.grown (doW_below w s o d a b n), by rw [cell_of_row _ _ _ _ _ _ r1]; rfl, by rw [cell_of_row _ _ _ _ _ _ r2]; rfl, by rw [cell_of_row _ _ _ _ _ _ r2]; rfl, by rw [cell_of_row _ _ _ _ _ _ r2]; rfl, by rw [cell_of_row _ _ _ _ _ _ r2]; rfl, by rw [cell_of_row _ _ _ _ _ _ r2]; rfl⟩

theorem DoC.drew {W : World} {B s mb L g : Nat} {m : MS} {gv ov : Value} {o d a b n : Int} (h : DoC W B s mb L g m gv ov o d a b n) : DoC W.drew B s mb L g m gv ov o d a b n :=
  ⟨h.mac.drew, by simpa using h.p, by simpa using h.x0, by simpa using h.x1, by simpa using h.x2, by simpa using h.x3, by simpa using h.x4⟩

set_option maxRecDepth 100000 in
set_option maxHeartbeats 2000000 in
theorem do_r (w : World) (B s mb L : Nat) (m : MS) (gv ov : Value) (o d n : Int) (a b : Nat) (h : Mac w B s mb L m gv ov) (o2 : o ≤ 13) (d0 : 0 ≤ d) (d1 : d < 32) (a1 : a < 32) (b1 : b < 32) :
    Calls Tryd.prog 31 #[.pointer (some ⟨s, 0, none⟩), instV o d a b n] w fun e w' => e = .returned (.int .i64 (wrap64 (m.pc + 4))) ∧ Post w B s mb L (writeV m d (Alu.aluV o (m.R a) (m.R b))) ov w' := by
  have HC : Hid (DoC (doW w s o d a b n) B s mb L w.heap.size m gv ov o d a b n) := doW_c h o d a b n
  have HB : Hid (Below w.heap.size w (doW w s o d a b n)) := doW_below w s o d a b n
  have HD : Hid (DoC (doW w s o d a b n).drew B s mb L w.heap.size m gv ov o d a b n) := HC.out.drew
  have p := HC.out.p
  have x0 := HC.out.x0
  have x2 := HC.out.x2
  have x3 := HC.out.x3
  have pc := HC.out.mac.core.pc
  have ra := HC.out.mac.core.reg a a1
  have rb := HC.out.mac.core.reg b b1
  generalize m.R a = x at *
  generalize m.R b = y at *
  clear h
  go_enter Tryd.func31, Tryd.ntmps31
  go_wp2_with fail
  go_region
  go_wp2_with (first
    | (go_at_call 44; refine (Alu.alu_any _ _ _ _).mono ?_; rintro e w' ⟨rfl, rfl⟩)
    | (go_at_call 43; refine (write_any _ B s mb L _ _ m gv ov d _ HD.out.mac HD.out.x1 HD.out.p d0 d1).mono ?_; rintro e w' ⟨rfl, hm, ho⟩))
  go_ret
  exact ⟨rfl, Post.grown HB.out (Post.of hm (Off.ws ((Off.refl _ _).drew.trans ho)))⟩
end Go.Proofs.YtaodcpdkobhmfaaDoor

namespace Go.Proofs.YtaodcpdkobhmfaaDoor
open Go Go.RowKit

set_option maxRecDepth 100000 in
set_option maxHeartbeats 2000000 in
theorem do_i (w : World) (B s mb L : Nat) (m : MS) (gv ov : Value) (o d n : Int) (a b : Nat) (h : Mac w B s mb L m gv ov) (o1 : 14 ≤ o) (o2 : o ≤ 21) (d0 : 0 ≤ d) (d1 : d < 32) (a1 : a < 32) (b1 : b < 32) :
    Calls Tryd.prog 31 #[.pointer (some ⟨s, 0, none⟩), instV o d a b n] w fun e w' => e = .returned (.int .i64 (wrap64 (m.pc + 4))) ∧ Post w B s mb L (writeV m d (Alu.aluV o (m.R a) n)) ov w' := by
  have HC : Hid (DoC (doW w s o d a b n) B s mb L w.heap.size m gv ov o d a b n) := doW_c h o d a b n
  have HB : Hid (Below w.heap.size w (doW w s o d a b n)) := doW_below w s o d a b n
  have HD : Hid (DoC (doW w s o d a b n).drew B s mb L w.heap.size m gv ov o d a b n) := HC.out.drew
  have p := HC.out.p
  have x0 := HC.out.x0
  have x2 := HC.out.x2
  have x3 := HC.out.x3
  have x4 := HC.out.x4
  have pc := HC.out.mac.core.pc
  have ra := HC.out.mac.core.reg a a1
  have rb := HC.out.mac.core.reg b b1
  generalize m.R a = x at *
  generalize m.R b = y at *
  clear h
  go_enter Tryd.func31, Tryd.ntmps31
  go_wp2_with fail
  go_region
  go_wp2_with (first
    | (go_at_call 44; refine (Alu.alu_any _ _ _ _).mono ?_; rintro e w' ⟨rfl, rfl⟩)
    | (go_at_call 43; refine (write_any _ B s mb L _ _ m gv ov d _ HD.out.mac HD.out.x1 HD.out.p d0 d1).mono ?_; rintro e w' ⟨rfl, hm, ho⟩))
  go_ret
  exact ⟨rfl, Post.grown HB.out (Post.of hm (Off.ws ((Off.refl _ _).drew.trans ho)))⟩

set_option maxRecDepth 100000 in
set_option maxHeartbeats 2000000 in
theorem do_lui (w : World) (B s mb L : Nat) (m : MS) (gv ov : Value) (d n : Int) (a b : Nat) (h : Mac w B s mb L m gv ov) (d0 : 0 ≤ d) (d1 : d < 32) (a1 : a < 32) (b1 : b < 32) :
    Calls Tryd.prog 31 #[.pointer (some ⟨s, 0, none⟩), instV 29 d a b n] w fun e w' => e = .returned (.int .i64 (wrap64 (m.pc + 4))) ∧ Post w B s mb L (writeV m d n) ov w' := by
  have HC : Hid (DoC (doW w s 29 d a b n) B s mb L w.heap.size m gv ov 29 d a b n) := doW_c h 29 d a b n
  have HB : Hid (Below w.heap.size w (doW w s 29 d a b n)) := doW_below w s 29 d a b n
  have HD : Hid (DoC (doW w s 29 d a b n).drew B s mb L w.heap.size m gv ov 29 d a b n) := HC.out.drew
  have p := HC.out.p
  have x0 := HC.out.x0
  have x2 := HC.out.x2
  have x3 := HC.out.x3
  have x4 := HC.out.x4
  have pc := HC.out.mac.core.pc
  have ra := HC.out.mac.core.reg a a1
  have rb := HC.out.mac.core.reg b b1
  generalize m.R a = x at *
  generalize m.R b = y at *
  clear h
  go_enter Tryd.func31, Tryd.ntmps31
  go_wp2_with fail
  go_region
  go_wp2_with (first
    | (go_at_call 43; refine (write_any _ B s mb L _ _ m gv ov d _ HD.out.mac HD.out.x1 HD.out.p d0 d1).mono ?_; rintro e w' ⟨rfl, hm, ho⟩))
  go_ret
  exact ⟨rfl, Post.grown HB.out (Post.of hm (Off.ws ((Off.refl _ _).drew.trans ho)))⟩

end Go.Proofs.YtaodcpdkobhmfaaDoor

namespace Go.Proofs.YtaodcpdkobhmfaaDoor
open Go Go.RowKit

set_option maxRecDepth 100000 in
set_option maxHeartbeats 2000000 in
theorem do_ld (w : World) (B s mb L : Nat) (m : MS) (gv ov : Value) (d n : Int) (a b : Nat) (h : Mac w B s mb L m gv ov) (d0 : 0 ≤ d) (d1 : d < 32) (a1 : a < 32) (b1 : b < 32) (hh : hasB L (wrap64 (m.R a + n)) 8 = true) :
    Calls Tryd.prog 31 #[.pointer (some ⟨s, 0, none⟩), instV 22 d a b n] w fun e w' => e = .returned (.int .i64 (wrap64 (m.pc + 4))) ∧ Post w B s mb L (writeV m d (wrap64 (gthTo m.M (wrap64 (m.R a + n)).toNat 8))) ov w' := by
  have HC : Hid (DoC (doW w s 22 d a b n) B s mb L w.heap.size m gv ov 22 d a b n) := doW_c h 22 d a b n
  have HB : Hid (Below w.heap.size w (doW w s 22 d a b n)) := doW_below w s 22 d a b n
  have HD : Hid (DoC (doW w s 22 d a b n).drew B s mb L w.heap.size m gv ov 22 d a b n) := HC.out.drew
  have p := HC.out.p
  have x0 := HC.out.x0
  have x2 := HC.out.x2
  have x3 := HC.out.x3
  have x4 := HC.out.x4
  have pc := HC.out.mac.core.pc
  have ra := HC.out.mac.core.reg a a1
  have rb := HC.out.mac.core.reg b b1
  have HH : Hid (hasB L (wrap64 (m.R a + n)) 8 = true) := hh
  clear hh
  generalize m.R a = x at *
  generalize m.R b = y at *
  clear h
  go_enter Tryd.func31, Tryd.ntmps31
  go_wp2_with fail
  go_region
  go_wp2_with (first
    | (go_at_call 13; refine (load_yes _ s mb L m gv ov _ HD.out.mac.core HH.out).mono ?_; rintro e w' ⟨rfl, rfl⟩)
    | (go_at_call 43; refine (write_any _ B s mb L _ _ m gv ov d _ HD.out.mac HD.out.x1 HD.out.p d0 d1).mono ?_; rintro e w' ⟨rfl, hm, ho⟩))
  go_ret
  exact ⟨rfl, Post.grown HB.out (Post.of hm (Off.ws ((Off.refl _ _).drew.trans ho)))⟩

set_option maxRecDepth 100000 in
set_option maxHeartbeats 2000000 in
theorem do_ld_no (w : World) (B s mb L : Nat) (m : MS) (gv ov : Value) (d n : Int) (a b : Nat) (h : Mac w B s mb L m gv ov) (a1 : a < 32) (b1 : b < 32) (hh : hasB L (wrap64 (m.R a + n)) 8 = false) :
    Calls Tryd.prog 31 #[.pointer (some ⟨s, 0, none⟩), instV 22 d a b n] w fun e w' => e = .returned (.int .i64 (wrap64 (m.pc + 4))) ∧ Post w B s mb L { m with way := 9, code := 0 } ov w' := by
  have HC : Hid (DoC (doW w s 22 d a b n) B s mb L w.heap.size m gv ov 22 d a b n) := doW_c h 22 d a b n
  have HB : Hid (Below w.heap.size w (doW w s 22 d a b n)) := doW_below w s 22 d a b n
  have HD : Hid (DoC (doW w s 22 d a b n).drew B s mb L w.heap.size m gv ov 22 d a b n) := HC.out.drew
  have p := HC.out.p
  have x0 := HC.out.x0
  have x2 := HC.out.x2
  have x3 := HC.out.x3
  have x4 := HC.out.x4
  have pc := HC.out.mac.core.pc
  have ra := HC.out.mac.core.reg a a1
  have rb := HC.out.mac.core.reg b b1
  have HH : Hid (hasB L (wrap64 (m.R a + n)) 8 = false) := hh
  clear hh
  generalize m.R a = x at *
  generalize m.R b = y at *
  clear h
  go_enter Tryd.func31, Tryd.ntmps31
  go_wp2_with fail
  go_region
  go_wp2_with (first
    | (go_at_call 13; refine (load_no _ s mb L m gv ov _ HD.out.mac.core HH.out).mono ?_; rintro e w' ⟨rfl, rfl⟩)
    | (go_at_call 30; refine (stop_any _ s _ _ _ _ HD.out.mac.core.way HD.out.mac.core.cod HD.out.mac.core.fs).mono ?_; rintro e w' ⟨rfl, rfl⟩))
  go_ret
  exact ⟨rfl, Post.grown HB.out (Post.stop HC.out.mac 9 0).drew⟩

end Go.Proofs.YtaodcpdkobhmfaaDoor

namespace Go.Proofs.YtaodcpdkobhmfaaDoor
open Go Go.RowKit

set_option maxRecDepth 100000 in
set_option maxHeartbeats 2000000 in
theorem do_sd (w : World) (B s mb L : Nat) (m : MS) (gv ov : Value) (d n : Int) (a b : Nat) (h : Mac w B s mb L m gv ov) (a1 : a < 32) (b1 : b < 32) (hh : hasB L (wrap64 (m.R a + n)) 8 = true) :
    Calls Tryd.prog 31 #[.pointer (some ⟨s, 0, none⟩), instV 24 d a b n] w fun e w' => e = .returned (.int .i64 (wrap64 (m.pc + 4))) ∧ Post w B s mb L { m with M := layTo m.M (wrap64 (m.R a + n)).toNat (m.R b % 18446744073709551616) 8 } ov w' := by
  have HC : Hid (DoC (doW w s 24 d a b n) B s mb L w.heap.size m gv ov 24 d a b n) := doW_c h 24 d a b n
  have HB : Hid (Below w.heap.size w (doW w s 24 d a b n)) := doW_below w s 24 d a b n
  have HD : Hid (DoC (doW w s 24 d a b n).drew B s mb L w.heap.size m gv ov 24 d a b n) := HC.out.drew
  have p := HC.out.p
  have x0 := HC.out.x0
  have x2 := HC.out.x2
  have x3 := HC.out.x3
  have x4 := HC.out.x4
  have pc := HC.out.mac.core.pc
  have ra := HC.out.mac.core.reg a a1
  have rb := HC.out.mac.core.reg b b1
  have HH : Hid (hasB L (wrap64 (m.R a + n)) 8 = true) := hh
  clear hh
  generalize m.R a = x at *
  generalize m.R b = y at *
  clear h
  go_enter Tryd.func31, Tryd.ntmps31
  go_wp2_with fail
  go_region
  go_wp2_with (first
    | (go_at_call 14; refine (store_yes _ s mb L m gv ov _ _ HD.out.mac.core HH.out).mono ?_; rintro e w' ⟨rfl, hm, ho⟩))
  go_ret
  exact ⟨rfl, Post.grown HB.out (Post.of (HD.out.mac.inM ho hm rfl rfl) (Off.wm ((Off.refl _ _).drew.trans ho)))⟩

set_option maxRecDepth 100000 in
set_option maxHeartbeats 2000000 in
theorem do_sd_no (w : World) (B s mb L : Nat) (m : MS) (gv ov : Value) (d n : Int) (a b : Nat) (h : Mac w B s mb L m gv ov) (a1 : a < 32) (b1 : b < 32) (hh : hasB L (wrap64 (m.R a + n)) 8 = false) :
    Calls Tryd.prog 31 #[.pointer (some ⟨s, 0, none⟩), instV 24 d a b n] w fun e w' => e = .returned (.int .i64 (wrap64 (m.pc + 4))) ∧ Post w B s mb L { m with way := 9, code := 0 } ov w' := by
  have HC : Hid (DoC (doW w s 24 d a b n) B s mb L w.heap.size m gv ov 24 d a b n) := doW_c h 24 d a b n
  have HB : Hid (Below w.heap.size w (doW w s 24 d a b n)) := doW_below w s 24 d a b n
  have HD : Hid (DoC (doW w s 24 d a b n).drew B s mb L w.heap.size m gv ov 24 d a b n) := HC.out.drew
  have p := HC.out.p
  have x0 := HC.out.x0
  have x2 := HC.out.x2
  have x3 := HC.out.x3
  have x4 := HC.out.x4
  have pc := HC.out.mac.core.pc
  have ra := HC.out.mac.core.reg a a1
  have rb := HC.out.mac.core.reg b b1
  have HH : Hid (hasB L (wrap64 (m.R a + n)) 8 = false) := hh
  clear hh
  generalize m.R a = x at *
  generalize m.R b = y at *
  clear h
  go_enter Tryd.func31, Tryd.ntmps31
  go_wp2_with fail
  go_region
  go_wp2_with (first
    | (go_at_call 14; refine (store_no _ s mb L m gv ov _ _ HD.out.mac.core HH.out).mono ?_; rintro e w' ⟨rfl, rfl⟩)
    | (go_at_call 30; refine (stop_any _ s _ _ _ _ HD.out.mac.core.way HD.out.mac.core.cod HD.out.mac.core.fs).mono ?_; rintro e w' ⟨rfl, rfl⟩))
  go_ret
  exact ⟨rfl, Post.grown HB.out (Post.stop HC.out.mac 9 0).drew⟩

end Go.Proofs.YtaodcpdkobhmfaaDoor

namespace Go.Proofs.YtaodcpdkobhmfaaDoor
open Go Go.RowKit

set_option maxRecDepth 100000 in
set_option maxHeartbeats 1000000 in
theorem call_end (w : World) (B s mb L : Nat) (m : MS) (gv ov : Value) (h : Mac w B s mb L m gv ov) (h1 : m.R 17 = 3) (h2 : 1 ≤ m.R 10) (h3 : m.R 10 ≤ 8) :
    Calls Tryd.prog 45 #[.pointer (some ⟨s, 0, none⟩)] w fun e w' => e = .returned (.tuple #[]) ∧ Post w B s mb L { m with way := m.R 10, code := m.R 11 } ov w' := by
  have HM : Hid (Mac (boxP w s) B s mb L m gv ov) := h.grown (boxP_below w s)
  have r10 := HM.out.core.reg 10 (by omega)
  have r11 := HM.out.core.reg 11 (by omega)
  have r17 := HM.out.core.reg 17 (by omega)
  have cp := boxP_cell w s
  rw [h1] at r17
  clear h1 h
  generalize m.R 10 = y at *
  generalize m.R 11 = z at *
  go_enter Tryd.func45, Tryd.ntmps45
  go_wp2_with fail
  have HD : Hid (Mac (boxP w s).drew B s mb L m gv ov) := HM.out.drew
  go_region_with (go_at_call 30; refine (stop_any _ s _ _ _ _ HD.out.core.way HD.out.core.cod HD.out.core.fs).mono ?_; rintro e w' ⟨rfl, rfl⟩)
  all_goals
    go_wp2
    go_end0
    exact ⟨rfl, Post.grown (boxP_below w s) (Post.stop HM.out y z).drew⟩

set_option maxRecDepth 100000 in
set_option maxHeartbeats 1000000 in
theorem call_give0 (w : World) (B s mb L : Nat) (m : MS) (gv ov : Value) (h : Mac w B s mb L m gv ov) (h1 : m.R 17 = 2) (h2 : m.G = []) :
    Calls Tryd.prog 45 #[.pointer (some ⟨s, 0, none⟩)] w fun e w' => e = .returned (.tuple #[]) ∧ Post w B s mb L { m with R := upd m.R 10 0 } ov w' := by
  have HM : Hid (Mac (boxP w s) B s mb L m gv ov) := h.grown (boxP_below w s)
  have HD : Hid (Mac (boxP w s).drew B s mb L m gv ov) := HM.out.drew
  have r10 := HM.out.core.reg 10 (by omega)
  have r17 := HM.out.core.reg 17 (by omega)
  have cp := boxP_cell w s
  rw [h1] at r17
  have hg : ∃ p c, gv = .slice p 0 c := by
    rcases h.giv with h' | ⟨gb, o, c, h', _⟩
    · exact h'.2
    · rw [h2] at h'; exact ⟨_, _, h'⟩
  obtain ⟨p, c, hgv⟩ := hg
  have HG : Hid (w.cell? ⟨s, 34, none⟩ = some (.slice p 0 c)) := by rw [← hgv]; exact h.core.giv
  have HG' : Hid ((boxP w s).drew.cell? ⟨s, 34, none⟩ = some (.slice p 0 c)) := by rw [← hgv]; exact HD.out.core.giv
  have f10 := HM.out.core.fs 10
  clear h1 h h2 hgv
  generalize m.R 10 = y at *
  go_enter Tryd.func45, Tryd.ntmps45
  go_wp2_with fail
  go_region_with (go_at_call 66; refine (take_none _ s p c HG'.out).mono ?_; rintro e w' ⟨rfl, rfl⟩)
  all_goals
    go_wp2
    go_end0
    refine ⟨rfl, Post.grown (boxP_below w s) (Post.of (gv := gv) ?_ ?_)⟩
    · exact (HM.out.setReg 10 (by omega) 0).drew
    · exact ((off_s _ _).drew).ws

set_option maxRecDepth 100000 in
set_option maxHeartbeats 1000000 in
theorem call_give (w : World) (B s mb L : Nat) (m : MS) (gv ov : Value) (g : Int) (t : List Int) (h : Mac w B s mb L m gv ov) (h1 : m.R 17 = 2) (h2 : m.G = g :: t) :
    Calls Tryd.prog 45 #[.pointer (some ⟨s, 0, none⟩)] w fun e w' => e = .returned (.tuple #[]) ∧ Post w B s mb L { m with G := t, R := upd m.R 10 g } ov w' := by
  have HM : Hid (Mac (boxP w s) B s mb L m gv ov) := h.grown (boxP_below w s)
  have r10 := HM.out.core.reg 10 (by omega)
  have r17 := HM.out.core.reg 17 (by omega)
  have cp := boxP_cell w s
  rw [h1] at r17
  have hg := HM.out.giv
  rw [h2] at hg
  rcases hg with h' | ⟨gb, o, c, k1, k2, k3, k4, k5, k6, k7, k8⟩
  · cases h'.1
  · have e0 := k8 0 (by simp)
    simp only [Nat.add_zero, List.getElem_cons_zero] at e0
    have et : ∀ i (hi : i < t.length), (boxP w s).cell? ⟨gb, o + 1 + i, none⟩ = some (.int .i64 (t[i]'hi)) := fun i hi => by
      have := k8 (i + 1) (by simp; omega)
      rw [show o + (i + 1) = o + 1 + i by omega] at this
      simpa using this
    have HT : Hid (Calls Tryd.prog 66 #[.pointer (some ⟨s, 0, none⟩)] (boxP w s).drew fun e w' => e = .returned (.int .i64 g) ∧ ∃ o', w' = ((boxP w s).setCell ⟨s, 34, none⟩ (.slice (some ⟨gb, o', none⟩) t.length (c - 1))).drew ∧ (t.length = 0 ∨ o' = o + 1)) :=
      take_some (boxP w s).drew s gb o t.length c g (by have := HM.out.core.giv; rw [k1] at this; simpa using this) (by simpa using k2) k3 (by simpa using e0) (fun i => by simpa using HM.out.core.fs i)
    have HK : Hid (∀ o', (t.length = 0 ∨ o' = o + 1) → Mac ((boxP w s).setCell ⟨s, 34, none⟩ (.slice (some ⟨gb, o', none⟩) t.length (c - 1))) B s mb L { m with G := t } (.slice (some ⟨gb, o', none⟩) t.length (c - 1)) ov) :=
      fun o' ho => HM.out.taken t gb o c o' (HM.out.gB gb (by rw [k1]; rfl)) k4 k5 k6 k7 (by simpa using k2) k3 et ho
    have f10 := HM.out.core.fs 10
    clear h1 h h2 k1 k2 k3 k4 k5 k6 k7 k8 e0 et
    generalize m.R 10 = y at *
    go_enter Tryd.func45, Tryd.ntmps45
    go_wp2_with fail
    go_region_with (go_at_call 66; refine HT.out.mono ?_; rintro e w' ⟨rfl, o', rfl, ho⟩)
    all_goals
      go_wp2
      go_end0
      refine ⟨rfl, Post.grown (boxP_below w s) ⟨_, ov, ((HK.out o' ho).setReg 10 (by omega) g).drew, ?_, fun k e => .inl e⟩⟩
      exact (((off_s _ _).trans (off_s _ _)).drew).ws

/-- An Ecall, whatever the machine has. -/
theorem call_any (w : World) (B s mb L : Nat) (m : MS) (gv ov : Value) (h : Mac w B s mb L m gv ov) :
    Calls Tryd.prog 45 #[.pointer (some ⟨s, 0, none⟩)] w fun e w' => e = .returned (.tuple #[]) ∧ Post w B s mb L (callV m) ov w' := by
  unfold callV
  by_cases h1 : m.R 17 = 1
  · rw [if_pos h1]
    by_cases h2 : 200 ≤ m.out.length
    · rw [if_pos h2]; exact call_full w B s mb L m gv ov h h1 h2
    · rw [if_neg h2]; exact call_tell w B s mb L m gv ov h h1 (by omega)
  · rw [if_neg h1]
    by_cases h2 : m.R 17 = 2
    · rw [if_pos h2]
      cases hG : m.G with
      | nil =>
        have h0 := call_give0 w B s mb L m gv ov h h2 hG
        rw [hG] at h0
        exact h0
      | cons g t => exact call_give w B s mb L m gv ov g t h h2 hG
    · rw [if_neg h2]
      by_cases h3 : m.R 17 = 3
      · rw [if_pos h3]
        by_cases h4 : m.R 10 < 1 ∨ 8 < m.R 10
        · rw [if_pos h4]; exact call_noway w B s mb L m gv ov h h3 h4
        · rw [if_neg h4]; exact call_end w B s mb L m gv ov h h3 (by omega) (by omega)
      · rw [if_neg h3]; exact call_bad w B s mb L m gv ov h h1 h2 h3
end Go.Proofs.YtaodcpdkobhmfaaDoor

namespace Go.Proofs.YtaodcpdkobhmfaaDoor
open Go Go.RowKit

set_option maxRecDepth 100000 in
set_option maxHeartbeats 2000000 in
theorem do_ecall (w : World) (B s mb L : Nat) (m : MS) (gv ov : Value) (d n : Int) (a b : Nat) (h : Mac w B s mb L m gv ov) (a1 : a < 32) (b1 : b < 32) :
    Calls Tryd.prog 31 #[.pointer (some ⟨s, 0, none⟩), instV 31 d a b n] w fun e w' => e = .returned (.int .i64 (wrap64 (m.pc + 4))) ∧ Post w B s mb L (callV m) ov w' := by
  have HC : Hid (DoC (doW w s 31 d a b n) B s mb L w.heap.size m gv ov 31 d a b n) := doW_c h 31 d a b n
  have HB : Hid (Below w.heap.size w (doW w s 31 d a b n)) := doW_below w s 31 d a b n
  have HD : Hid (DoC (doW w s 31 d a b n).drew B s mb L w.heap.size m gv ov 31 d a b n) := HC.out.drew
  have p := HC.out.p
  have x0 := HC.out.x0
  have x2 := HC.out.x2
  have x3 := HC.out.x3
  have x4 := HC.out.x4
  have pc := HC.out.mac.core.pc
  have ra := HC.out.mac.core.reg a a1
  have rb := HC.out.mac.core.reg b b1
  generalize m.R a = x at *
  generalize m.R b = y at *
  clear h
  go_enter Tryd.func31, Tryd.ntmps31
  go_wp2_with fail
  go_region
  go_wp2_with (first
    | (go_at_call 45; refine (call_any _ B s mb L m gv ov HD.out.mac).mono ?_; rintro e w' ⟨rfl, hp⟩))
  go_ret
  exact ⟨rfl, Post.grown HB.out (Post.trans (Off.refl _ _).drew (fun _ e => .inl e) hp)⟩

end Go.Proofs.YtaodcpdkobhmfaaDoor

namespace Go.Proofs.YtaodcpdkobhmfaaDoor
open Go Go.RowKit

set_option maxRecDepth 100000 in
set_option maxHeartbeats 2000000 in
theorem do_jalr (w : World) (B s mb L : Nat) (m : MS) (gv ov : Value) (d n : Int) (a b : Nat) (h : Mac w B s mb L m gv ov) (d0 : 0 ≤ d) (d1 : d < 32) (a1 : a < 32) (b1 : b < 32) :
    Calls Tryd.prog 31 #[.pointer (some ⟨s, 0, none⟩), instV 23 d a b n] w fun e w' => e = .returned (.int .i64 (bits .andNot .i64 (wrap64 (m.R a + n)) 1)) ∧ Post w B s mb L (writeV m d (wrap64 (m.pc + 4))) ov w' := by
  have HC : Hid (DoC (doW w s 23 d a b n) B s mb L w.heap.size m gv ov 23 d a b n) := doW_c h 23 d a b n
  have HB : Hid (Below w.heap.size w (doW w s 23 d a b n)) := doW_below w s 23 d a b n
  have HD : Hid (DoC (doW w s 23 d a b n).drew B s mb L w.heap.size m gv ov 23 d a b n) := HC.out.drew
  have p := HC.out.p
  have x0 := HC.out.x0
  have x2 := HC.out.x2
  have x3 := HC.out.x3
  have x4 := HC.out.x4
  have pc := HC.out.mac.core.pc
  have ra := HC.out.mac.core.reg a a1
  have rb := HC.out.mac.core.reg b b1
  have hs := h.core.s0
  have HZ : Hid (w.heap.size + 1 < (doW w s 23 d a b n).drew.heap.size) := by show _ < _; simp
  have HS : Hid (w.heap.size + 1 ≠ s) := by show _ ≠ _; omega
  generalize m.R a = x at *
  generalize m.R b = y at *
  clear h hs
  go_enter Tryd.func31, Tryd.ntmps31
  go_wp2_with fail
  go_region
  go_wp2_with (go_at_call 43; refine (write_any _ B s mb L _ _ m gv ov d _ HD.out.mac HD.out.x1 HD.out.p d0 d1).mono ?_; rintro e w' ⟨rfl, hm, ho⟩; have y4 : w'.cell? ⟨w.heap.size + 1, 4, none⟩ = some (.int .i64 n) := (ho.cell (p := ⟨w.heap.size + 1, 4, none⟩) HZ.out HS.out).trans HD.out.x4)
  go_ret
  exact ⟨rfl, Post.grown HB.out (Post.of hm (Off.ws ((Off.refl _ _).drew.trans ho)))⟩

theorem writeV_pc (m : MS) (d v : Int) : (writeV m d v).pc = m.pc := by unfold writeV; split <;> rfl

set_option maxRecDepth 100000 in
set_option maxHeartbeats 2000000 in
theorem do_jal (w : World) (B s mb L : Nat) (m : MS) (gv ov : Value) (d n : Int) (a b : Nat) (h : Mac w B s mb L m gv ov) (d0 : 0 ≤ d) (d1 : d < 32) (a1 : a < 32) (b1 : b < 32) :
    Calls Tryd.prog 31 #[.pointer (some ⟨s, 0, none⟩), instV 30 d a b n] w fun e w' => e = .returned (.int .i64 (wrap64 (m.pc + n))) ∧ Post w B s mb L (writeV m d (wrap64 (m.pc + 4))) ov w' := by
  have HC : Hid (DoC (doW w s 30 d a b n) B s mb L w.heap.size m gv ov 30 d a b n) := doW_c h 30 d a b n
  have HB : Hid (Below w.heap.size w (doW w s 30 d a b n)) := doW_below w s 30 d a b n
  have HD : Hid (DoC (doW w s 30 d a b n).drew B s mb L w.heap.size m gv ov 30 d a b n) := HC.out.drew
  have p := HC.out.p
  have x0 := HC.out.x0
  have x2 := HC.out.x2
  have x3 := HC.out.x3
  have x4 := HC.out.x4
  have pc := HC.out.mac.core.pc
  have ra := HC.out.mac.core.reg a a1
  have rb := HC.out.mac.core.reg b b1
  have hs := h.core.s0
  have HZ : Hid (w.heap.size + 1 < (doW w s 30 d a b n).drew.heap.size) := by show _ < _; simp
  have HS : Hid (w.heap.size + 1 ≠ s) := by show _ ≠ _; omega
  have HZ' : Hid (w.heap.size < (doW w s 30 d a b n).drew.heap.size) := by show _ < _; simp; omega
  have HS' : Hid (w.heap.size ≠ s) := by show _ ≠ _; omega
  generalize m.R a = x at *
  generalize m.R b = y at *
  clear h hs
  go_enter Tryd.func31, Tryd.ntmps31
  go_wp2_with fail
  go_region
  go_wp2_with (go_at_call 43; refine (write_any _ B s mb L _ _ m gv ov d _ HD.out.mac HD.out.x1 HD.out.p d0 d1).mono ?_; rintro e w' ⟨rfl, hm, ho⟩; have y4 : w'.cell? ⟨w.heap.size + 1, 4, none⟩ = some (.int .i64 n) := (ho.cell (p := ⟨w.heap.size + 1, 4, none⟩) HZ.out HS.out).trans HD.out.x4; have y0 : w'.cell? ⟨w.heap.size, 0, none⟩ = some (.pointer (some ⟨s, 0, none⟩)) := (ho.cell (p := ⟨w.heap.size, 0, none⟩) HZ'.out HS'.out).trans HD.out.p; have yp : w'.cell? ⟨s, 33, none⟩ = some (.int .i64 m.pc) := by (have := hm.core.pc; rw [writeV_pc] at this; exact this))
  have HM : Hid (Mac _ _ _ _ _ _ _ _) := hm
  have HO : Hid (Off _ _ _) := ho
  clear hm ho
  go_region
  go_wp2_with fail
  go_ret
  exact ⟨rfl, Post.grown HB.out (Post.of HM.out.drew (Off.ws ((Off.refl _ _).drew.trans HO.out).drew))⟩

end Go.Proofs.YtaodcpdkobhmfaaDoor

namespace Go.Proofs.YtaodcpdkobhmfaaDoor
open Go Go.RowKit

set_option maxRecDepth 100000 in
set_option maxHeartbeats 2000000 in
theorem do_br (w : World) (B s mb L : Nat) (m : MS) (gv ov : Value) (o d n : Int) (a b : Nat) (h : Mac w B s mb L m gv ov) (ho : o = 25 ∨ o = 26 ∨ o = 27 ∨ o = 28) (a1 : a < 32) (b1 : b < 32) (hg : goesV o (m.R a) (m.R b) = true) :
    Calls Tryd.prog 31 #[.pointer (some ⟨s, 0, none⟩), instV o d a b n] w fun e w' => e = .returned (.int .i64 (wrap64 (m.pc + n))) ∧ Post w B s mb L m ov w' := by
  have HC : Hid (DoC (doW w s o d a b n) B s mb L w.heap.size m gv ov o d a b n) := doW_c h o d a b n
  have HB : Hid (Below w.heap.size w (doW w s o d a b n)) := doW_below w s o d a b n
  have HD : Hid (DoC (doW w s o d a b n).drew B s mb L w.heap.size m gv ov o d a b n) := HC.out.drew
  have p := HC.out.p
  have x0 := HC.out.x0
  have x2 := HC.out.x2
  have x3 := HC.out.x3
  have x4 := HC.out.x4
  have pc := HC.out.mac.core.pc
  have ra := HC.out.mac.core.reg a a1
  have rb := HC.out.mac.core.reg b b1
  have hs := h.core.s0
  have o1 : 25 ≤ o := by omega
  have o2 : o ≤ 28 := by omega
  have HO : Hid (o = 25 ∨ o = 26 ∨ o = 27 ∨ o = 28) := ho
  have HG : Hid (goesV o (m.R a) (m.R b) = true) := hg
  clear ho hg
  generalize m.R a = x at *
  generalize m.R b = y at *
  clear h hs
  go_enter Tryd.func31, Tryd.ntmps31
  go_wp2_with fail
  go_region
  go_wp2_with (go_at_call 46; refine (goes_any _ _ _ _ HO.out).mono ?_; rw [HG.out]; rintro e w' ⟨rfl, hb⟩; have HE : Hid (Below _ _ w') := hb; have y4 : w'.cell? ⟨w.heap.size + 1, 4, none⟩ = some (.int .i64 n) := (hb.cell (p := ⟨w.heap.size + 1, 4, none⟩) (block_lt_of_cell HD.out.x4)).trans HD.out.x4; have y0 : w'.cell? ⟨w.heap.size, 0, none⟩ = some (.pointer (some ⟨s, 0, none⟩)) := (hb.cell (p := ⟨w.heap.size, 0, none⟩) (block_lt_of_cell HD.out.p)).trans HD.out.p; have yp : w'.cell? ⟨s, 33, none⟩ = some (.int .i64 m.pc) := (hb.cell (p := ⟨s, 33, none⟩) (block_lt_of_cell HD.out.mac.core.pc)).trans HD.out.mac.core.pc; clear hb)
  go_region
  go_wp2_with fail
  go_ret
  exact ⟨rfl, Post.grown HB.out (Post.of (HD.out.mac.grown HE.out).drew ((Off.refl _ _).drew.trans (Off.of_below HE.out)).drew)⟩

set_option maxRecDepth 100000 in
set_option maxHeartbeats 2000000 in
theorem do_br_no (w : World) (B s mb L : Nat) (m : MS) (gv ov : Value) (o d n : Int) (a b : Nat) (h : Mac w B s mb L m gv ov) (ho : o = 25 ∨ o = 26 ∨ o = 27 ∨ o = 28) (a1 : a < 32) (b1 : b < 32) (hg : goesV o (m.R a) (m.R b) = false) :
    Calls Tryd.prog 31 #[.pointer (some ⟨s, 0, none⟩), instV o d a b n] w fun e w' => e = .returned (.int .i64 (wrap64 (m.pc + 4))) ∧ Post w B s mb L m ov w' := by
  have HC : Hid (DoC (doW w s o d a b n) B s mb L w.heap.size m gv ov o d a b n) := doW_c h o d a b n
  have HB : Hid (Below w.heap.size w (doW w s o d a b n)) := doW_below w s o d a b n
  have HD : Hid (DoC (doW w s o d a b n).drew B s mb L w.heap.size m gv ov o d a b n) := HC.out.drew
  have p := HC.out.p
  have x0 := HC.out.x0
  have x2 := HC.out.x2
  have x3 := HC.out.x3
  have x4 := HC.out.x4
  have pc := HC.out.mac.core.pc
  have ra := HC.out.mac.core.reg a a1
  have rb := HC.out.mac.core.reg b b1
  have hs := h.core.s0
  have o1 : 25 ≤ o := by omega
  have o2 : o ≤ 28 := by omega
  have HO : Hid (o = 25 ∨ o = 26 ∨ o = 27 ∨ o = 28) := ho
  have HG : Hid (goesV o (m.R a) (m.R b) = false) := hg
  clear ho hg
  generalize m.R a = x at *
  generalize m.R b = y at *
  clear h hs
  go_enter Tryd.func31, Tryd.ntmps31
  go_wp2_with fail
  go_region
  go_wp2_with (go_at_call 46; refine (goes_any _ _ _ _ HO.out).mono ?_; rw [HG.out]; rintro e w' ⟨rfl, hb⟩; have HE : Hid (Below _ _ w') := hb; have y4 : w'.cell? ⟨w.heap.size + 1, 4, none⟩ = some (.int .i64 n) := (hb.cell (p := ⟨w.heap.size + 1, 4, none⟩) (block_lt_of_cell HD.out.x4)).trans HD.out.x4; have y0 : w'.cell? ⟨w.heap.size, 0, none⟩ = some (.pointer (some ⟨s, 0, none⟩)) := (hb.cell (p := ⟨w.heap.size, 0, none⟩) (block_lt_of_cell HD.out.p)).trans HD.out.p; have yp : w'.cell? ⟨s, 33, none⟩ = some (.int .i64 m.pc) := (hb.cell (p := ⟨s, 33, none⟩) (block_lt_of_cell HD.out.mac.core.pc)).trans HD.out.mac.core.pc; clear hb)
  go_ret
  exact ⟨rfl, Post.grown HB.out (Post.of (HD.out.mac.grown HE.out) ((Off.refl _ _).drew.trans (Off.of_below HE.out)))⟩

end Go.Proofs.YtaodcpdkobhmfaaDoor
