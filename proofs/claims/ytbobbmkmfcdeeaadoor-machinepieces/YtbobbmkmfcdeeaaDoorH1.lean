/- Package machine's do, walked: ops that reckon. -/
import Derived.Test.YtbobbmkmfcdeeaaDoorG9
namespace Go.Proofs.YtbobbmkmfcdeeaaDoor
open Go Go.RowKit

/-- A register is written, but 0. -/
def writeV (m : MS) (d v : Int) : MS := if d = 0 then m else { m with R := upd m.R d.toNat v }

theorem write_any (w : World) (B s mb L g1 g2 : Nat) (m : MS) (gv ov : Value) (d v : Int) (h : Mac w B s mb L m gv ov) (h1 : w.cell? ⟨g1, 1, none⟩ = some (.int .i64 d)) (h2 : w.cell? ⟨g2, 0, none⟩ = some (.pointer (some ⟨s, 0, none⟩))) (d0 : 0 ≤ d) (d1 : d < 32) :
    Calls Tryd.prog 43 #[.int .i64 v, .pointer (some ⟨g1, 0, none⟩), .pointer (some ⟨g2, 0, none⟩)] w fun e w' => e = .returned (.tuple #[]) ∧ Mac w' B s mb L (writeV m d v) gv ov ∧ Off (· = s) w w' := by
  unfold writeV
  by_cases hd : d = 0
  · subst hd
    refine (write_zero w g1 g2 v h1).mono ?_
    rintro e w' ⟨rfl, rfl⟩
    rw [if_pos rfl]
    exact ⟨rfl, h, Off.refl _ _⟩
  · obtain ⟨d, rfl⟩ := Int.eq_ofNat_of_zero_le d0
    refine (write_some w g1 g2 s d v _ h1 h2 (by omega) (by omega) (h.core.reg d (by omega)) (h.core.fs d)).mono ?_
    rintro e w' ⟨rfl, rfl⟩
    rw [if_neg hd]
    exact ⟨rfl, (h.setReg d (by omega) v).drew, (off_s _ _).drew⟩

abbrev doW (w : World) (s : Nat) (o d a b n : Int) : World := (w.alloc (.cells #[.pointer (some ⟨s, 0, none⟩)] 28)).alloc (.cells #[.int .i64 o, .int .i64 d, .int .i64 a, .int .i64 b, .int .i64 n] 71)

theorem doW_below (w : World) (s : Nat) (o d a b n : Int) : Below w.heap.size w (doW w s o d a b n) := ((Below.refl _ _).alloc (Nat.le_refl _) _).alloc (by simp) _

/-- What the walk of do asks of its world. -/
structure DoC (W : World) (B s mb L g : Nat) (m : MS) (gv ov : Value) (o d a b n : Int) : Prop where
  mac : Mac W B s mb L m gv ov
  p : W.cell? ⟨g, 0, none⟩ = some (.pointer (some ⟨s, 0, none⟩))
  x0 : W.cell? ⟨g + 1, 0, none⟩ = some (.int .i64 o)
  x1 : W.cell? ⟨g + 1, 1, none⟩ = some (.int .i64 d)
  x2 : W.cell? ⟨g + 1, 2, none⟩ = some (.int .i64 a)
  x3 : W.cell? ⟨g + 1, 3, none⟩ = some (.int .i64 b)
  x4 : W.cell? ⟨g + 1, 4, none⟩ = some (.int .i64 n)

theorem doW_c {w : World} {B s mb L : Nat} {m : MS} {gv ov : Value} (h : Mac w B s mb L m gv ov) (o d a b n : Int) : DoC (doW w s o d a b n) B s mb L w.heap.size m gv ov o d a b n := by
  have r1 : (doW w s o d a b n).heap[w.heap.size]? = some (.cells #[.pointer (some ⟨s, 0, none⟩)] 28) := heap_alloc2_old _ _ _
  have r2 : (doW w s o d a b n).heap[w.heap.size + 1]? = some (.cells #[.int .i64 o, .int .i64 d, .int .i64 a, .int .i64 b, .int .i64 n] 71) := heap_alloc2_new _ _ _
  exact ⟨h.grown (doW_below w s o d a b n), by rw [cell_of_row _ _ _ _ _ _ r1]; rfl, by rw [cell_of_row _ _ _ _ _ _ r2]; rfl, by rw [cell_of_row _ _ _ _ _ _ r2]; rfl, by rw [cell_of_row _ _ _ _ _ _ r2]; rfl, by rw [cell_of_row _ _ _ _ _ _ r2]; rfl, by rw [cell_of_row _ _ _ _ _ _ r2]; rfl⟩

theorem DoC.drew {W : World} {B s mb L g : Nat} {m : MS} {gv ov : Value} {o d a b n : Int} (h : DoC W B s mb L g m gv ov o d a b n) : DoC W.drew B s mb L g m gv ov o d a b n :=
  ⟨h.mac.drew, by simpa using h.p, by simpa using h.x0, by simpa using h.x1, by simpa using h.x2, by simpa using h.x3, by simpa using h.x4⟩

set_option maxRecDepth 100000 in
set_option maxHeartbeats 2000000 in
theorem do_r (w : World) (B s mb L : Nat) (m : MS) (gv ov : Value) (o d n : Int) (a b : Nat) (h : Mac w B s mb L m gv ov) (o2 : o ≤ 13) (d0 : 0 ≤ d) (d1 : d < 32) (a1 : a < 32) (b1 : b < 32) :
    Calls Tryd.prog 31 #[.pointer (some ⟨s, 0, none⟩), instV o d a b n] w fun e w' => e = .returned (.int .i64 (wrap64 (m.pc + 4))) ∧ Post w B s mb L (writeV m d (Alu.aluV o (m.R a) (m.R b))) ov w' := by
  have HC : Hid (DoC (doW w s o d a b n) B s mb L w.heap.size m gv ov o d a b n) := doW_c h o d a b n
  have HB : Hid (Below w.heap.size w (doW w s o d a b n)) := doW_below w s o d a b n
  have HD : Hid (DoC (doW w s o d a b n).drew B s mb L w.heap.size m gv ov o d a b n) := HC.out.drew
  have p := HC.out.p
  have x0 := HC.out.x0
  have x2 := HC.out.x2
  have x3 := HC.out.x3
  have pc := HC.out.mac.core.pc
  have ra := HC.out.mac.core.reg a a1
  have rb := HC.out.mac.core.reg b b1
  generalize m.R a = x at *
  generalize m.R b = y at *
  clear h
  go_enter Tryd.func31, Tryd.ntmps31
  go_wp2_with fail
  go_region
  go_wp2_with (first
    | (go_at_call 44; refine (Alu.alu_any _ _ _ _).mono ?_; rintro e w' ⟨rfl, rfl⟩)
    | (go_at_call 43; refine (write_any _ B s mb L _ _ m gv ov d _ HD.out.mac HD.out.x1 HD.out.p d0 d1).mono ?_; rintro e w' ⟨rfl, hm, ho⟩))
  go_ret
  exact ⟨rfl, Post.grown HB.out (Post.of hm (Off.ws ((Off.refl _ _).drew.trans ho)))⟩
end Go.Proofs.YtbobbmkmfcdeeaaDoor
