/- What the three proofs share: an instruction that comes in by value, opened; the tables' condition, met at the program's own start. -/
import Derived.Test.YtchankbdfkgdiaaDoorL2
import Derived.ProofKit
import Derived.LaidMore
import Derived.OpenShut
import Derived.ChangeOld
import Derived.Below
import Derived.Stop.Joined
import Derived.Lib.SmallJoins
namespace Go.Proofs.YtchankbdfkgdiaaDoor
open Go Go.ChangeShapes Go.WideShapes Go.ChangeAt Go.WideMaps Go.WideElems Go.RowKit

theorem own : ownKnob Tryd.prog.godebug = none := by kernel_rfl
theorem laidOut : laidOutB Tryd.prog = true := by kernel_rfl
theorem cells23 : Tryd.prog.cellsOf 23 = 5 := by kernel_rfl
theorem cells3 : Tryd.prog.cellsOf 3 = 1 := by kernel_rfl
theorem cells2 : Tryd.prog.cellsOf 2 = 1 := by kernel_rfl

theorem array5 {α : Type} {cs : Array α} (h : cs.size = 5) : ∃ a b c d e, cs = #[a, b, c, d, e] := by
  obtain ⟨l⟩ := cs
  match l, h with
  | [a, b, c, d, e], _ => exact ⟨a, b, c, d, e, rfl⟩

set_option maxRecDepth 100000 in
/-- An instruction by value: five whole numbers. -/
theorem open_inst {H : Type} {enc : TypeId × Value → H} {W : World} {base : Nat} {v : Value} {dt : DataW H} {p : List MemPlace} {r : Reach} {b0 : Nat} {sp : Nat → Bool}
    (hv : Value.okWide Tryd.prog W r b0 23 v) (h : DataW.Trod enc Tryd.prog W base sp true 23 v dt p) : ∃ o d a b n : Int, v = .agg #[.int .i64 o, .int .i64 d, .int .i64 a, .int .i64 b, .int .i64 n] := by
  obtain ⟨cs, rfl, hsz⟩ := okWide_struct Tryd.underlying23 hv
  obtain ⟨a0, a1, a2, a3, a4, rfl⟩ := array5 (hsz.trans cells23)
  obtain ⟨fuel, hf⟩ := h
  have hd : ∃ ds, dt = .agg ds := by
    cases fuel with
    | zero => simp [DataW.trod] at hf
    | succ m =>
      simp only [DataW.trod, Tryd.underlying23] at hf
      split at hf
      · obtain ⟨xs, _, hx⟩ := Option.map_eq_some_iff.1 hf
        simp only [Prod.mk.injEq] at hx
        exact ⟨_, hx.1.symm⟩
      · cases hf
  obtain ⟨ds, rfl⟩ := hd
  obtain ⟨_, y0, _, _, h0⟩ := str_at Tryd.underlying23 hf 0 _ rfl
  obtain ⟨_, y1, _, _, h1⟩ := str_at Tryd.underlying23 hf 1 _ rfl
  obtain ⟨_, y2, _, _, h2⟩ := str_at Tryd.underlying23 hf 2 _ rfl
  obtain ⟨_, y3, _, _, h3⟩ := str_at Tryd.underlying23 hf 3 _ rfl
  obtain ⟨_, y4, _, _, h4⟩ := str_at Tryd.underlying23 hf 4 _ rfl
  obtain ⟨z0, e0, _⟩ := DataW.trod_int Tryd.underlying3 h0
  obtain ⟨z1, e1, _⟩ := DataW.trod_int Tryd.underlying3 h1
  obtain ⟨z2, e2, _⟩ := DataW.trod_int Tryd.underlying3 h2
  obtain ⟨z3, e3, _⟩ := DataW.trod_int Tryd.underlying3 h3
  obtain ⟨z4, e4, _⟩ := DataW.trod_int Tryd.underlying2 h4
  simp [Value.cells, cells3] at e0 e1 e2 e3
  simp [Value.cells, cells2] at e4
  exact ⟨z0, z1, z2, z3, z4, by rw [e0, e1, e2, e3, e4]⟩

abbrev laid2 : List (String × DataW Unit) := [("bloomery/word.forms", Rows.laid_bloomery_word_forms), ("bloomery/word.shapes", Rows.laid_bloomery_word_shapes)]

/-- The door's own heap meets the condition. -/
theorem door_met2 (os : Os) (args : Array Value) : laidMetH Tryd.prog laid2 ((World.doorLaid Tryd.prog 84 os).forCall (fun _ _ => 0) ⟨#[], args, []⟩).memory :=
  laidMetH_of_parts3 (fuel := 8) (laidMet_of_run' 8 (by kernel_rfl) (by kernel_rfl)) (by kernel_rfl) (by kernel_rfl)

theorem tabs_of_laid2 {W : World} (h : laidMetH Tryd.prog laid2 W) : Tabs T W := by
  rw [MakeChecks.laidMetH_plain _ _ _ (by kernel_rfl)] at h
  exact tabs_of_laid h
end Go.Proofs.YtchankbdfkgdiaaDoor
