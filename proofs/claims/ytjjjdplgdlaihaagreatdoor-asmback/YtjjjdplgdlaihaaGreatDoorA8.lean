/- The two tables of package word. -/
import Derived.Test.YtjjjdplgdlaihaaGreatDoorA4
namespace Go.Proofs.YtjjjdplgdlaihaaGreatDoor
open Go Go.RowKit

/-- The two tables: of op number o its kind and bits; of each kind its shape and its cells. -/
structure Tb where
  kd : Nat → Nat
  lo : Nat → Int
  md : Nat → Int
  hg : Nat → Int
  sh : Nat → Sh
  cs : Nat → List Value
  ph : Nat → Int

structure TbOk (T : Tb) : Prop where
  k8 : ∀ o, 1 ≤ o → o ≤ 31 → T.kd o < 8
  l0 : ∀ o, 0 ≤ T.lo o ∧ T.lo o < 128
  m0 : ∀ o, 0 ≤ T.md o ∧ T.md o < 8
  h0 : ∀ o, 0 ≤ T.hg o ∧ T.hg o < 128
  is : ∀ k, k < 8 → ShIs (T.cs k) (T.sh k)
  ok : ∀ k, k < 8 → ShOk (T.sh k)
  ph : ∀ k, k < 8 → (T.sh k).sg = true → (2 : Int) ^ ((T.sh k).wd.toNat - 1) = T.ph k

def Tabs (T : Tb) (w : World) : Prop := ∀ o, 1 ≤ o → o ≤ 31 → TabAt w o (T.kd o) (T.lo o) (T.md o) (T.hg o) (T.cs (T.kd o))
theorem Tabs.below {T : Tb} {w w' : World} (h : Tabs T w) (hb : Below w.heap.size w w') : Tabs T w' := fun o h1 h2 => (h o h1 h2).below hb

end Go.Proofs.YtjjjdplgdlaihaaGreatDoor
