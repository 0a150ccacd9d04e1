/- What the walks read of package variables: the tables, the ops' names and parts, strconv's own. -/
import Derived.Test.YtjjjdplgdlaihaaGreatDoorC1
import Derived.Test.YtjjjdplgdlaihaaGreatDoorShelf
import Derived.Test.YtjjjdplgdlaihaaGreatDoorN5
namespace Go.Proofs.YtjjjdplgdlaihaaGreatDoor
open Go Go.RowKit

abbrev str (s : By) : Value := .string ⟨s.toArray⟩
def opN (o : Nat) : By := (opsL.getD o ([], [])).1
def opP (o : Nat) : By := (opsL.getD o ([], [])).2

structure Env (w : World) : Prop where
  tab : Tabs T w
  opn : ∀ o, 1 ≤ o → o ≤ 31 → w.cell? ⟨1, o * 2, none⟩ = some (str (opN o))
  opp : ∀ o, 1 ≤ o → o ≤ 31 → w.cell? ⟨1, o * 2 + 1, none⟩ = some (str (opP o))
  pow : Lib.TabIs Tryz.prog w "internal/strconv.uint64pow10" .u64 Lib.pow10Tab
  max : ∃ m, w.cell? ⟨6, 0, none⟩ = some (.int .i64 m)
  syn : ∃ tp p, w.var? Tryz.prog "strconv.ErrSyntax" = some #[.iface tp p]
  rng : ∃ tp p, w.var? Tryz.prog "strconv.ErrRange" = some #[.iface tp p]

theorem var_below {w w' : World} {name : String} {cs : Array Value} (h : w.var? Tryz.prog name = some cs) (hb : Below w.heap.size w w') : w'.var? Tryz.prog name = some cs := by
  unfold World.var? at *
  cases hg : Tryz.prog.globalNamed name with
  | none => simp [hg] at h
  | some g =>
    simp only [hg, Option.bind_some] at h ⊢
    have hlt : g < w.heap.size := by
      rcases Nat.lt_or_ge g w.heap.size with h' | h'
      · exact h'
      · rw [Array.getElem?_eq_none h'] at h; simp at h
    rw [hb.block g hlt]
    exact h

theorem Env.below {w w' : World} (h : Env w) (hb : Below w.heap.size w w') : Env w' := by
  obtain ⟨m, hm⟩ := h.max
  obtain ⟨t1, p1, h1⟩ := h.syn
  obtain ⟨t2, p2, h2⟩ := h.rng
  exact ⟨h.tab.below hb, fun o a b => (hb.cell (World.block_lt_of_cell? w _ (h.opn o a b))).trans (h.opn o a b), fun o a b => (hb.cell (World.block_lt_of_cell? w _ (h.opp o a b))).trans (h.opp o a b), var_below h.pow hb, ⟨m, (hb.cell (World.block_lt_of_cell? w _ hm)).trans hm⟩, ⟨t1, p1, var_below h1 hb⟩, ⟨t2, p2, var_below h2 hb⟩⟩
end Go.Proofs.YtjjjdplgdlaihaaGreatDoor
