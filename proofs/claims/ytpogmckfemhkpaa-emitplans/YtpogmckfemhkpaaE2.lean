/- The document's Plan, walked. -/
import Derived.Test.YtpogmckfemhkpaaE1
import Derived.Deep.RegionHeld3
import Derived.Deep.DeepCutAuto
namespace Go.Proofs.Ytpogmckfemhkpaa
open Go Go.RowKit
abbrev zs23 : Obj := .cells #[.int .i64 0, .int .i64 0, .int .i64 0, .int .i64 0, .int .i64 0, .int .i64 0] 23
abbrev lay23 (c k o f b : Int) : Obj := .cells #[.int .i64 c, .int .i64 c, .int .i64 k, .int .i64 o, .int .i64 f, .int .i64 b] 23
theorem first_of_two (w : World) (o p : Obj) : (((w.alloc o).alloc p).drew.drew).heap[w.heap.size]? = some o := by
  have h1 : (w.alloc o).heap[w.heap.size]? = some o := heap_alloc_last w o
  have h2 : w.heap.size < (w.alloc o).heap.size := (Array.getElem?_eq_some_iff.1 h1).1
  show ((w.alloc o).alloc p).heap[w.heap.size]? = some o
  have : ((w.alloc o).alloc p).heap = (w.alloc o).heap.push p := rfl
  rw [this, Array.getElem?_push_lt h2]
  exact Array.getElem?_eq_some_iff.1 h1 |>.2 |> congrArg some
theorem res6 (tmps : Array Value) (w : World) (g : Nat) (a b c d e f : Value) (hp : tmps.getD 4 undef = .pointer (some ⟨g, 0, none⟩)) (hg : w.heap[g]? = some (.cells #[a, b, c, d, e, f] 23)) :
    (results Try.f6 tmps).run Try.prog w = .ok (.agg #[a, b, c, d, e, f]) w :=
  results_cell_row (p := 4) (ty := 23) Try.results6 _ _ g 23 _ (0, 0) _ hp hg Try.underlying23 rfl (by kernel_rfl)
theorem td8 {r : Int} (r0 : 0 ≤ r) (r1 : r ≤ 1048576) : IntKind.i64.wrap (r.tdiv 8) = r / 8 := by
  rw [Int.tdiv_eq_ediv_of_nonneg r0, IntKind.wrap_i64]; omega
theorem td4 {r : Int} (r0 : 0 ≤ r) (r1 : r ≤ 1048576) : IntKind.i64.wrap (r.tdiv 4) = r / 4 := by
  rw [Int.tdiv_eq_ediv_of_nonneg r0, IntKind.wrap_i64]; omega
set_option maxHeartbeats 4000000 in
theorem ref_any (a b : Int) (a0 : 0 ≤ a) (a1 : a ≤ 1048576) (b0 : 0 ≤ b) (b1 : b ≤ 1048576) (w : World) : Calls Try.prog 6 #[.int .i64 a, .int .i64 b] w fun e w' => e = .returned (planV a b) ∧ Grown w w' := by
  go_enter Try.func6, Try.ntmps6
  go_upto_if 20 with (go_at_call 10; refine (cut1_ex _ (by omega) (by omega) _).mono ?_; rintro e w' ⟨c, c0, c1, hc, rfl, rfl⟩)
  go_cut [7] (fun v7 wx => ∃ r, 0 ≤ r ∧ r ≤ b ∧ Hid (r = max 0 (b - c)) ∧ v7 = .int .i64 r ∧ wx = (w.alloc zs23).alloc (.cells #[.int .i64 c, .int .i64 0, .int .i64 0, .int .i64 0, .int .i64 0, .int .i64 b] 23))
  case first =>
    go_wp2_with fail
    · go_meet; exact ⟨0, by omega, by omega, by unfold Hid; omega, rfl, rfl⟩
    · go_meet; exact ⟨b - c, by omega, by omega, by unfold Hid; omega, rfl, rfl⟩
  case rest =>
    obtain ⟨r, r0, r1, hr, rfl, rfl⟩ := hcut
    have t8 := td8 r0 (by omega)
    have t4 := td4 r0 (by omega)
    obtain ⟨d, hd⟩ : ∃ d, d = cutV (r / 8) := ⟨_, rfl⟩
    obtain ⟨s, hs⟩ : ∃ s, s = cutV (r / 4) := ⟨_, rfl⟩
    obtain ⟨h, hh⟩ : ∃ h, h = cutV ((r - d - s) / 2) := ⟨_, rfl⟩
    have d0 : 0 ≤ d := by subst hd; unfold cutV; omega
    have d1 : d ≤ r / 8 := by subst hd; unfold cutV; omega
    have s0 : 0 ≤ s := by subst hs; unfold cutV; omega
    have s1 : s ≤ r / 4 := by subst hs; unfold cutV; omega
    have h0 : 0 ≤ h := by subst hh; unfold cutV; omega
    have h1 : h ≤ (r - d - s) / 2 := by subst hh; unfold cutV; omega
    have HC8 : Hid (∀ w, Calls Try.prog 10 #[.int .i64 (r / 8)] w fun e w' => e = .returned (.int .i64 d) ∧ w' = w) := fun w => by rw [hd]; exact cut1_any _ _ rfl (by omega) (by omega) w
    have HC4 : Hid (∀ w, Calls Try.prog 10 #[.int .i64 (r / 4)] w fun e w' => e = .returned (.int .i64 s) ∧ w' = w) := fun w => by rw [hs]; exact cut1_any _ _ rfl (by omega) (by omega) w
    have HC2 : Hid (∀ w, Calls Try.prog 10 #[.int .i64 ((r - d - s) / 2)] w fun e w' => e = .returned (.int .i64 h) ∧ w' = w) := fun w => by rw [hh]; exact cut1_any _ _ rfl (by omega) (by omega) w
    have e1 : IntKind.i64.wrap (c + d) = c + d := by rw [IntKind.wrap_i64]; omega
    have e2 : IntKind.i64.wrap (r - d) = r - d := by rw [IntKind.wrap_i64]; omega
    have e3 : IntKind.i64.wrap (r - d - s) = r - d - s := by rw [IntKind.wrap_i64]; omega
    have e4 : IntKind.i64.wrap ((r - d - s).tdiv 2) = (r - d - s) / 2 := by rw [Int.tdiv_eq_ediv_of_nonneg (by omega), IntKind.wrap_i64]; omega
    have e5 : IntKind.i64.wrap (c + d + h) = c + d + h := by rw [IntKind.wrap_i64]; omega
    have HR : Hid (planV a b = .agg #[.int .i64 c, .int .i64 c, .int .i64 (c + d), .int .i64 (c + d + h), .int .i64 (b - s), .int .i64 b]) := by
      have ec : c = codeV a := hc.get
      have er : r = restV a b := by have := hr.get; rw [this, ec]; rfl
      have ed : d = rootV a b := by rw [hd, er]; rfl
      have es : s = stackV a b := by rw [hs, er]; rfl
      have eh : h = halfV a b := by rw [hh, er, ed, es]; rfl
      unfold Hid planV; rw [ec, ed, es, eh]
    clear hd hs hh hr hc
    go_upto_region 7 with fail
    go_cut [] (fun wx => wx = ((w.alloc zs23).alloc (lay23 c (c + d) 0 0 b)).drew)
    case first =>
      go_region_with (go_at_call 10; refine (HC8.get _).mono ?_; rintro e w' ⟨rfl, rfl⟩)
      all_goals (go_wp2_with fail; go_meet)
      all_goals rfl
    case rest =>
      subst hcut
      go_upto_region 9 with (go_at_call 10; refine (HC4.get _).mono ?_; rintro e w' ⟨rfl, rfl⟩)
      go_cut [] (fun wx => wx = ((w.alloc zs23).alloc (lay23 c (c + d) (c + d + h) (b - s) b)).drew.drew)
      case first =>
        go_region_with (first | (go_at_call 10; refine (HC8.get _).mono ?_; rintro e w' ⟨rfl, rfl⟩) | (go_at_call 10; refine (HC4.get _).mono ?_; rintro e w' ⟨rfl, rfl⟩) | (go_at_call 10; refine (HC2.get _).mono ?_; rintro e w' ⟨rfl, rfl⟩))
        all_goals (go_wp2_with fail; go_meet)
        all_goals rfl
      case rest =>
        subst hcut
        go_wp2_with fail
        exact bodyPost_ret (res6 _ _ w.heap.size _ _ _ _ _ _ rfl (first_of_two w _ _)) rfl ⟨congrArg _ HR.get.symm, by repeat (first | exact Grown.refl _ | apply Grown.drew | apply Grown.alloc)⟩
end Go.Proofs.Ytpogmckfemhkpaa
