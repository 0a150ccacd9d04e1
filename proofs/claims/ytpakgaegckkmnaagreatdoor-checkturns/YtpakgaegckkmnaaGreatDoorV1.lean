/- Plain: expressions, written; a builder and its text. -/
import Derived.Test.YtpakgaegckkmnaaGreatDoorV0
import Derived.Test.YtpakgaegckkmnaaGreatDoorSH2
namespace Go.Proofs.YtpakgaegckkmnaaGreatDoor
set_option linter.unusedVariables false
set_option linter.unusedSimpArgs false
open Go Go.RowKit

/-- How near an expression holds its parts. -/
def holdsV : Tr → Nat
  | .agg [.lit (.int _ c), _, _, _, .lit (.string op), _, _, _] => if c = 3 then nearV op else if c = 4 then 7 else 8
  | _ => 8
/-- A part, in ( and ), unless it holds at least so near. -/
def hold : Tr → Nat → By → By
  | .nil, _, s => s
  | t, k, s => if k ≤ holdsV t then s else [40] ++ s ++ [41]
def sep : Tr → By
  | .slice [] [] => []
  | _ => [44, 32]
/-- An expression (args), written. -/
def wrT : Tr → By
  | .agg [.lit (.int _ c), .lit (.int _ _), .lit (.int _ n), .lit (.string nm), .lit (.string op), l, r, g] =>
    if c = 1 then Lib.itoa n
    else if c = 2 then nm
    else if c = 3 then hold l (nearV op) (wrT l) ++ ([32] ++ op ++ [32]) ++ hold r (nearV op + 1) (wrT r)
    else if c = 4 then op ++ hold l 7 (wrT l)
    else if c = 5 then (nm ++ [40]) ++ wrT g ++ [41]
    else if c = 6 then ([110, 101, 119] ++ [40]) ++ wrT l ++ [41]
    else if c = 7 then ([108, 101, 110] ++ [40]) ++ wrT l ++ [41]
    else if c = 9 then ([105, 110, 112, 117, 116] ++ [40]) ++ [41]
    else if c = 8 then hold l 8 (wrT l) ++ ([91] ++ wrT r ++ [93])
    else []
  | .slice [x] [g] => wrT x ++ sep g ++ wrT g
  | _ => []

/-- A builder that holds a text. -/
abbrev Bd (B b : Nat) (s : By) (W : World) : Prop := Lib.IsBuilderF 54 5 B b (Lib.byteCells s) W
/-- What writing leaves as it was. -/
structure FrB (B b : Nat) (w w' : World) : Prop where
  low : Below B w w'
  oth : Lib.OthersKept 5 (some b) w w'
theorem FrB.refl (B b : Nat) (w : World) : FrB B b w w := ⟨Below.refl _ _, Lib.OthersKept.refl _ _ _⟩
theorem FrB.trans {B b : Nat} {x y z : World} (h : FrB B b x y) (g : FrB B b y z) : FrB B b x z := ⟨h.low.trans g.low, h.oth.trans g.oth⟩
theorem FrB.of {B b : Nat} {w w' : World} (h : Below w.heap.size w w') (hB : B ≤ w.heap.size) : FrB B b w w' := ⟨h.mono hB, fun k o hk _ _ => by rw [h.block k (Array.getElem?_eq_some_iff.1 hk).1]; exact hk⟩
theorem FrB.size {B b : Nat} {w w' : World} (h : FrB B b w w') : w.heap.size ≤ w'.heap.size := h.low.size
theorem FrB.keeps {B b : Nat} {s : By} {w w' : World} (S : Nat → Prop) (hb : Bd B b s w) (h : FrB B b w w') : Keeps S w w' := fun k cs t _ ht hk => by
  refine h.oth k _ hk (fun e => ?_) (fun c fz e => ?_)
  · injection e with e
    subst e
    rcases hb with ⟨_, v, hv, _⟩ | ⟨_, v, hv, _⟩ <;>
    · rw [hv] at hk
      injection hk with hk
      injection hk with _ h2
      exact ht.2.2 h2.symm
  · injection e with _ h2
    exact ht.2.1 h2
theorem Bd.below {B b : Nat} {s : By} {w w' : World} (h : Bd B b s w) (hb : Below w.heap.size w w') : Bd B b s w' := by
  have k : ∀ p, Lib.BuilderAtF 54 5 B b p (Lib.byteCells s) w → Lib.BuilderAtF 54 5 B b p (Lib.byteCells s) w' := fun p ⟨h1, v, h2, h3, h4⟩ =>
    ⟨h1, v, by rw [hb.block b (Array.getElem?_eq_some_iff.1 h2).1]; exact h2, h3.kept (grown_none hb) (by cases v.ownBlock <;> simp), h4⟩
  exact h.imp (k _) (k _)
theorem byteCells_app (a b : By) : Lib.byteCells (a ++ b) = Lib.byteCells a ++ Lib.byteCells b := by simp [Lib.byteCells]
theorem byteCells_len (a : By) : (Lib.byteCells a).length = a.length := by simp [Lib.byteCells]
/-- WriteString. -/
theorem ws {B b : Nat} {s : By} {W : World} (x : ByteArray) (h : Bd B b s W) (hB : B ≤ W.heap.size) (hl : s.length + x.size ≤ 1000000000000) :
    Calls Tryz.prog 17 #[.pointer (some ⟨b, 0, none⟩), .string x] W fun e w' => e = .returned (.tuple #[.int .i64 x.size, .nilIface]) ∧ Bd B b (s ++ x.data.toList) w' ∧ FrB B b W w' :=
  (Tryz.Builder_WriteString_k B b (Lib.byteCells s) x W h (by rw [byteCells_len]; omega) hB).mono fun e w' ⟨a, c, d, f⟩ => ⟨a, .inr (by rw [byteCells_app]; exact c), d, f⟩
/-- What a writer leaves. -/
def WPost (B b : Nat) (s t : By) (w : World) (e : Ending) (w' : World) : Prop := e = .returned (.tuple #[]) ∧ Bd B b (s ++ t) w' ∧ FrB B b w w'
/-- The number table. -/
abbrev Pw (w : World) : Prop := Lib.TabIs Tryz.prog w "internal/strconv.uint64pow10" .u64 Lib.pow10Tab
structure EnvW (B : Nat) (w : World) : Prop where
  env : Env w
  pow : Pw w
  far : 11 ≤ B
  le : B ≤ w.heap.size
end Go.Proofs.YtpakgaegckkmnaaGreatDoor
