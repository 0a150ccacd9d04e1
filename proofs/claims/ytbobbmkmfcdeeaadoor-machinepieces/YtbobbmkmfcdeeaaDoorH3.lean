/- Package machine's do, walked: Ld. -/
import Derived.Test.YtbobbmkmfcdeeaaDoorH1
namespace Go.Proofs.YtbobbmkmfcdeeaaDoor
open Go Go.RowKit

set_option maxRecDepth 100000 in
set_option maxHeartbeats 2000000 in
theorem do_ld (w : World) (B s mb L : Nat) (m : MS) (gv ov : Value) (d n : Int) (a b : Nat) (h : Mac w B s mb L m gv ov) (d0 : 0 ≤ d) (d1 : d < 32) (a1 : a < 32) (b1 : b < 32) (hh : hasB L (wrap64 (m.R a + n)) 8 = true) :
    Calls Tryd.prog 31 #[.pointer (some ⟨s, 0, none⟩), instV 22 d a b n] w fun e w' => e = .returned (.int .i64 (wrap64 (m.pc + 4))) ∧ Post w B s mb L (writeV m d (wrap64 (gthTo m.M (wrap64 (m.R a + n)).toNat 8))) ov w' := by
  have HC : Hid (DoC (doW w s 22 d a b n) B s mb L w.heap.size m gv ov 22 d a b n) := doW_c h 22 d a b n
  have HB : Hid (Below w.heap.size w (doW w s 22 d a b n)) := doW_below w s 22 d a b n
  have HD : Hid (DoC (doW w s 22 d a b n).drew B s mb L w.heap.size m gv ov 22 d a b n) := HC.out.drew
  have p := HC.out.p
  have x0 := HC.out.x0
  have x2 := HC.out.x2
  have x3 := HC.out.x3
  have x4 := HC.out.x4
  have pc := HC.out.mac.core.pc
  have ra := HC.out.mac.core.reg a a1
  have rb := HC.out.mac.core.reg b b1
  have HH : Hid (hasB L (wrap64 (m.R a + n)) 8 = true) := hh
  clear hh
  generalize m.R a = x at *
  generalize m.R b = y at *
  clear h
  go_enter Tryd.func31, Tryd.ntmps31
  go_wp2_with fail
  go_region
  go_wp2_with (first
    | (go_at_call 13; refine (load_yes _ s mb L m gv ov _ HD.out.mac.core HH.out).mono ?_; rintro e w' ⟨rfl, rfl⟩)
    | (go_at_call 43; refine (write_any _ B s mb L _ _ m gv ov d _ HD.out.mac HD.out.x1 HD.out.p d0 d1).mono ?_; rintro e w' ⟨rfl, hm, ho⟩))
  go_ret
  exact ⟨rfl, Post.grown HB.out (Post.of hm (Off.ws ((Off.refl _ _).drew.trans ho)))⟩

set_option maxRecDepth 100000 in
set_option maxHeartbeats 2000000 in
theorem do_ld_no (w : World) (B s mb L : Nat) (m : MS) (gv ov : Value) (d n : Int) (a b : Nat) (h : Mac w B s mb L m gv ov) (a1 : a < 32) (b1 : b < 32) (hh : hasB L (wrap64 (m.R a + n)) 8 = false) :
    Calls Tryd.prog 31 #[.pointer (some ⟨s, 0, none⟩), instV 22 d a b n] w fun e w' => e = .returned (.int .i64 (wrap64 (m.pc + 4))) ∧ Post w B s mb L { m with way := 9, code := 0 } ov w' := by
  have HC : Hid (DoC (doW w s 22 d a b n) B s mb L w.heap.size m gv ov 22 d a b n) := doW_c h 22 d a b n
  have HB : Hid (Below w.heap.size w (doW w s 22 d a b n)) := doW_below w s 22 d a b n
  have HD : Hid (DoC (doW w s 22 d a b n).drew B s mb L w.heap.size m gv ov 22 d a b n) := HC.out.drew
  have p := HC.out.p
  have x0 := HC.out.x0
  have x2 := HC.out.x2
  have x3 := HC.out.x3
  have x4 := HC.out.x4
  have pc := HC.out.mac.core.pc
  have ra := HC.out.mac.core.reg a a1
  have rb := HC.out.mac.core.reg b b1
  have HH : Hid (hasB L (wrap64 (m.R a + n)) 8 = false) := hh
  clear hh
  generalize m.R a = x at *
  generalize m.R b = y at *
  clear h
  go_enter Tryd.func31, Tryd.ntmps31
  go_wp2_with fail
  go_region
  go_wp2_with (first
    | (go_at_call 13; refine (load_no _ s mb L m gv ov _ HD.out.mac.core HH.out).mono ?_; rintro e w' ⟨rfl, rfl⟩)
    | (go_at_call 30; refine (stop_any _ s _ _ _ _ HD.out.mac.core.way HD.out.mac.core.cod HD.out.mac.core.fs).mono ?_; rintro e w' ⟨rfl, rfl⟩))
  go_ret
  exact ⟨rfl, Post.grown HB.out (Post.stop HC.out.mac 9 0).drew⟩

end Go.Proofs.YtbobbmkmfcdeeaaDoor
