/- Package mid: the model of steps; what they are in memory; Both. -/
import Derived.Test.YtjmbjpimabnohaaDoorNA
namespace Go.Proofs.YtjmbjpimabnohaaDoor.Mid
set_option linter.unusedVariables false
set_option linter.unusedSimpArgs false
open Go Go.RowKit

/-- A step. -/
structure Ms where
  code : Int
  dst : Int
  a : Int
  b : Int
  c : Int
  n : Int
  op : By
  label : Int
  name : By
  args : List Int
/-- A function. -/
structure Mf where
  name : By
  params : Int
  types : List Int
  steps : List Ms
def holdB (op : By) (a b : Int) : Bool := if op = [61, 61] then decide (a = b) else if op = [33, 61] then decide (a ≠ b) else if op = [60] then decide (a < b) else if op = [60, 61] then decide (a ≤ b) else if op = [62] then decide (a > b) else if op = [62, 61] then decide (a ≥ b) else false
/-- What a mark of two comes to, and the way in which it ends. -/
def bothV (op : By) (a b : Int) : Int × Int :=
  if op = [43] then (wrap64 (a + b), 0)
  else if op = [45] then (wrap64 (a - b), 0)
  else if op = [42] then (wrap64 (a * b), 0)
  else if op = [47] then (if b = 0 then (0, 2) else (wrap64 (a.tdiv b), 0))
  else if op = [37] then (if b = 0 then (0, 2) else (a.tmod b, 0))
  else (if holdB op a b then 1 else 0, 0)
def bothG (op : By) (a b : Int) : Go1 Int := if (bothV op a b).2 ≠ 0 then gt (bothV op a b).2 else gp (bothV op a b).1
theorem tl_eq (y : ByteArray) : y.data.toList = y.toList := (ByteArray.toList_eq y).symm
theorem ret_bool {a b : Bool} (h : a = b) : Ending.returned (.bool a) = .returned (.bool b) := by rw [h]
theorem ret_two {a b c d : Int} (h : a = b) (g : c = d) : Ending.returned (.tuple #[.int .i64 a, .int .i64 c]) = .returned (.tuple #[.int .i64 b, .int .i64 d]) := by rw [h, g]
set_option maxHeartbeats 1000000 in
theorem holds_any (y : ByteArray) (a b : Int) (w : World) : Calls Tryd.prog 21 #[.string y, .int .i64 a, .int .i64 b] w fun e w' => e = .returned (.bool (holdB y.data.toList a b)) ∧ w' = w := by
  rw [tl_eq]
  go_enter Tryd.func21, Tryd.ntmps21
  go_wp2
  all_goals (go_ret; refine ⟨ret_bool ?_, rfl⟩; unfold holdB; simp_all [Bool.beq_eq_decide_eq, bne])
set_option maxHeartbeats 1000000 in
theorem divided_any (y : ByteArray) (a b : Int) (w : World) : Calls Tryd.prog 20 #[.string y, .int .i64 a, .int .i64 b] w fun e w' => e = .returned (if b = 0 then .tuple #[.int .i64 0, .int .i64 2] else if y.data.toList = [47] then .tuple #[.int .i64 (wrap64 (a.tdiv b)), .int .i64 0] else .tuple #[.int .i64 (a.tmod b), .int .i64 0]) ∧ w' = w := by
  rw [tl_eq]
  go_enter Tryd.func20, Tryd.ntmps20
  go_wp2
  all_goals ((try go_ret2); simp_all)
def BoP (op : By) (a b : Int) (w : World) (e : Ending) (w' : World) : Prop := e = .returned (.tuple #[.int .i64 (bothV op a b).1, .int .i64 (bothV op a b).2]) ∧ w' = w
set_option maxHeartbeats 1000000 in
theorem both_any (y : ByteArray) (a b : Int) (w : World) : Calls Tryd.prog 7 #[.string y, .int .i64 a, .int .i64 b] w (BoP y.data.toList a b w) := by
  rw [tl_eq]
  obtain ⟨G, hG⟩ : ∃ G, G = BoP y.toList a b w := ⟨_, rfl⟩
  have HG : Hid (G = BoP y.toList a b w) := hG
  have HH : Hid (∀ w, Calls Tryd.prog 21 #[.string y, .int .i64 a, .int .i64 b] w fun e w' => e = .returned (.bool (holdB y.toList a b)) ∧ w' = w) := fun w => by have := holds_any y a b w; rw [tl_eq] at this; exact this
  obtain ⟨dv, hdv⟩ : ∃ dv : Int × Int, dv = (if b = 0 then (0, 2) else if y.toList = [47] then (wrap64 (a.tdiv b), 0) else (a.tmod b, 0)) := ⟨_, rfl⟩
  have HD : Hid (∀ w, Calls Tryd.prog 20 #[.string y, .int .i64 a, .int .i64 b] w fun e w' => e = .returned (.tuple #[.int .i64 dv.1, .int .i64 dv.2]) ∧ w' = w) := fun w => by
    have := divided_any y a b w
    rw [tl_eq] at this
    refine this.mono ?_
    rintro e w' ⟨rfl, rfl⟩
    refine ⟨?_, rfl⟩
    rw [hdv]
    split
    · rfl
    · split <;> rfl
  have HV : Hid (dv = (if b = 0 then (0, 2) else if y.toList = [47] then (wrap64 (a.tdiv b), 0) else (a.tmod b, 0))) := hdv
  rw [← hG]
  clear hG hdv
  obtain ⟨d1, d2⟩ := dv
  go_enter Tryd.func7, Tryd.ntmps7
  go_wp2_with (first
    | (go_at_call 20; refine (HD.out _).mono ?_; rintro e w' ⟨rfl, rfl⟩)
    | (go_at_call 21; refine (HH.out _).mono ?_; rintro e w' ⟨rfl, rfl⟩))
  all_goals
    ((try go_ret2); have hv := HV.out; rw [HG.out]; refine ⟨ret_two ?_ ?_, rfl⟩ <;> unfold bothV <;> simp_all <;> (try split) <;> simp_all)
end Go.Proofs.YtjmbjpimabnohaaDoor.Mid
