/- Package machine's do, walked: Ecall. -/
import Derived.Test.YtbobbmkmfcdeeaaDoorH1
import Derived.Test.YtbobbmkmfcdeeaaDoorH0
namespace Go.Proofs.YtbobbmkmfcdeeaaDoor
open Go Go.RowKit

set_option maxRecDepth 100000 in
set_option maxHeartbeats 2000000 in
theorem do_ecall (w : World) (B s mb L : Nat) (m : MS) (gv ov : Value) (d n : Int) (a b : Nat) (h : Mac w B s mb L m gv ov) (a1 : a < 32) (b1 : b < 32) :
    Calls Tryd.prog 31 #[.pointer (some ⟨s, 0, none⟩), instV 31 d a b n] w fun e w' => e = .returned (.int .i64 (wrap64 (m.pc + 4))) ∧ Post w B s mb L (callV m) ov w' := by
  have HC : Hid (DoC (doW w s 31 d a b n) B s mb L w.heap.size m gv ov 31 d a b n) := doW_c h 31 d a b n
  have HB : Hid (Below w.heap.size w (doW w s 31 d a b n)) := doW_below w s 31 d a b n
  have HD : Hid (DoC (doW w s 31 d a b n).drew B s mb L w.heap.size m gv ov 31 d a b n) := HC.out.drew
  have p := HC.out.p
  have x0 := HC.out.x0
  have x2 := HC.out.x2
  have x3 := HC.out.x3
  have x4 := HC.out.x4
  have pc := HC.out.mac.core.pc
  have ra := HC.out.mac.core.reg a a1
  have rb := HC.out.mac.core.reg b b1
  generalize m.R a = x at *
  generalize m.R b = y at *
  clear h
  go_enter Tryd.func31, Tryd.ntmps31
  go_wp2_with fail
  go_region
  go_wp2_with (first
    | (go_at_call 45; refine (call_any _ B s mb L m gv ov HD.out.mac).mono ?_; rintro e w' ⟨rfl, hp⟩))
  go_ret
  exact ⟨rfl, Post.grown HB.out (Post.trans (Off.refl _ _).drew (fun _ e => .inl e) hp)⟩

end Go.Proofs.YtbobbmkmfcdeeaaDoor
