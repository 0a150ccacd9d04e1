/- Maps: what each key stands for, how many there are; labels, byName, walked. -/
import Derived.Test.YtjmbjpimabnohaaDoorNI
import Derived.Maps.RangeWalk
namespace Go.Proofs.YtjmbjpimabnohaaDoor.Mid
set_option linter.unusedVariables false
set_option linter.unusedSimpArgs false
open Go Go.RowKit

/-- Every value reads as itself. -/
def Rv (v : Value) : Option (DataW Value × List MemPlace) := some (.held v, [])
/-- A map: what each key stands for; so many keys. -/
def Mp (k : TypeId) (w : World) (b : Nat) (f : Lit → Option Value) (n : Nat) : Prop :=
  ∃ D, w.ownsMap Tryd.prog k Rv b n D ∧ Maps.size D = n ∧ ∀ kl, (∀ z, D.atKey kl (.held z) = .held ((f kl).getD z)) ∧ Maps.has D kl = (f kl).isSome
theorem own_size {k : TypeId} {w : World} {b n : Nat} {D : DataW Value} (h : w.ownsMap Tryd.prog k Rv b n D) : w.ownsMap Tryd.prog k Rv b (Maps.size D) D := by
  obtain ⟨es, clock, h1, h2, h3, rfl⟩ := h
  exact ⟨es, clock, h1, h2, by simp [Maps.size, length_sorted], rfl⟩
theorem Mp.obj {k : TypeId} {w : World} {b n : Nat} {f : Lit → Option Value} (h : Mp k w b f n) : ∃ es clock, w.heap[b]? = some (.map es clock) := by
  obtain ⟨D, ⟨es, clock, h1, _⟩, _⟩ := h
  exact ⟨es, clock, h1⟩
theorem Mp.kept {k : TypeId} {w w' : World} {b n : Nat} {f : Lit → Option Value} (h : Mp k w b f n) (hk : w'.heap[b]? = w.heap[b]?) : Mp k w' b f n := by
  obtain ⟨D, ⟨es, clock, h1, h2⟩, h3⟩ := h
  exact ⟨D, ⟨es, clock, by rw [hk]; exact h1, h2⟩, h3⟩
theorem Mp.lt {k : TypeId} {w : World} {b n : Nat} {f : Lit → Option Value} (h : Mp k w b f n) : b < w.heap.size := by
  obtain ⟨es, clock, h1⟩ := h.obj
  exact (Array.getElem?_eq_some_iff.1 h1).1
theorem Mp.made (k : TypeId) (w : World) : Mp k (w.alloc (.map #[] 0)) w.heap.size (fun _ => none) 0 :=
  ⟨_, World.ownsMap_made w Tryd.prog k Rv, rfl, fun kl => ⟨fun z => rfl, rfl⟩⟩
theorem Mp.look {k : TypeId} {w : World} {b n : Nat} {f : Lit → Option Value} {t e : TypeId} (h : Mp k w b f n) (K : Maps.Keyed Tryd.prog k) (ht : Tryd.prog.underlying t = some (.map k e)) {z : Value} (hz : (zeroValue e).run Tryd.prog w = .ok z w) {key : Value} {kl : Lit} (hkey : keyOf Tryd.prog k key = some kl) :
    (Instr.lookup t (.map (some b)) key false).run Tryd.prog w = .ok ((f kl).getD z) w := by
  obtain ⟨D, h1, _, h3⟩ := h
  obtain ⟨v, ps, hrun, hR⟩ := World.ownsMap.lookup h1 K ht hz (show Rv z = some (.held z, []) from rfl) hkey
  rw [(h3 kl).1] at hR
  unfold Rv at hR
  simp only [Option.some.injEq, Prod.mk.injEq, DataW.held.injEq] at hR
  rw [hrun, hR.1]
theorem Mp.look2 {k : TypeId} {w : World} {b n : Nat} {f : Lit → Option Value} {t e : TypeId} (h : Mp k w b f n) (K : Maps.Keyed Tryd.prog k) (ht : Tryd.prog.underlying t = some (.map k e)) {z : Value} (hz : (zeroValue e).run Tryd.prog w = .ok z w) {key : Value} {kl : Lit} (hkey : keyOf Tryd.prog k key = some kl) :
    (Instr.lookup t (.map (some b)) key true).run Tryd.prog w = .ok (.tuple #[(f kl).getD z, .bool (f kl).isSome]) w := by
  obtain ⟨D, h1, _, h3⟩ := h
  obtain ⟨v, ps, hrun, hR⟩ := World.ownsMap.look_ok h1 K ht hz (show Rv z = some (.held z, []) from rfl) hkey
  rw [(h3 kl).1] at hR
  unfold Rv at hR
  simp only [Option.some.injEq, Prod.mk.injEq, DataW.held.injEq] at hR
  rw [hrun, hR.1, (h3 kl).2]
theorem Mp.len {k : TypeId} {w : World} {b n : Nat} {f : Lit → Option Value} {t e : TypeId} (h : Mp k w b f n) (ht : Tryd.prog.underlying t = some (.map k e)) (ty : TypeId) : (Builtin.len_ #[t] ty #[.map (some b)]).run Tryd.prog w = .ok (.int .i64 n) w := by
  obtain ⟨D, h1, h2, _⟩ := h
  rw [h1.len ht ty, h2]
theorem Mp.put {k : TypeId} {w : World} {b n : Nat} {f g : Lit → Option Value} {t e : TypeId} (h : Mp k w b f n) (K : Maps.Keyed Tryd.prog k) (ht : Tryd.prog.underlying t = some (.map k e)) (hn : n < 100000000) {key : Value} {kl : Lit} (hkey : keyOf Tryd.prog k key = some kl) (hkl : WideAt.IsKeyLit kl) (v : Value)
    (hg : g kl = some v) (hgo : ∀ y, y ≠ kl → g y = f y) :
    ∃ w', (Instr.mapUpdate t (.map (some b)) key v).run Tryd.prog w = .ok () w' ∧ Mp k w' b g (if (f kl).isSome then n else n + 1) ∧ w.grownBy w' (some b) := by
  obtain ⟨D, h1, h2, h3⟩ := h
  obtain ⟨w', hrun, ho, hgr⟩ := World.ownsMap.update h1 K ht (by unfold maxLen; omega) hkey (show Rv v = some (.held v, []) from rfl)
  have hsz : Maps.size (D.put kl (.held v)) = if (f kl).isSome then n else n + 1 := by rw [Maps.size_put (h1.tidy K), (h3 kl).2, h2]
  refine ⟨w', hrun, ⟨_, ?_, hsz, fun y => ?_⟩, hgr⟩
  · rw [← hsz]; exact own_size ho
  · by_cases e : y = kl
    · subst e
      refine ⟨fun z => ?_, ?_⟩
      · rw [Maps.atKey_put_same h1.isMap hkl, hg]; rfl
      · rw [Maps.has_put_same h1.isMap hkl, hg]; rfl
    · refine ⟨fun z => ?_, ?_⟩
      · rw [Maps.atKey_put_other e, hgo y e]; exact (h3 y).1 z
      · rw [Maps.has_put_other e, hgo y e]; exact (h3 y).2
theorem key_i (x : Int) (hx : I64 x) : keyOf Tryd.prog 3 (.int .i64 x) = some (.int .i64 x) := Maps.keyOf_int_mk Tryd.underlying3 (WalkArith.wf_i64 (by have := hx.1; have := hx.2; omega))
theorem key_s (x : ByteArray) (hx : x.size ≤ 9223372036854775807) : keyOf Tryd.prog 9 (.string x) = some (.string x.data.toList) := Go.WideMaps.keyOf_string_mk Tryd.underlying9 (by unfold maxLen; omega)
theorem kdI : Maps.Keyed Tryd.prog 3 := Maps.int_keyed Tryd.underlying3
theorem kdS : Maps.Keyed Tryd.prog 9 := Maps.string_keyed Tryd.underlying9
theorem und69 : Tryd.prog.underlying 69 = some (.map 3 3) := Tryd.underlying69
theorem und62 : Tryd.prog.underlying 62 = some (.map 9 64) := Tryd.underlying62
theorem zero3 (w : World) : (zeroValue 3).run Tryd.prog w = .ok (.int .i64 0) w := by kernel_rfl
theorem zero64 (w : World) : (zeroValue 64).run Tryd.prog w = .ok (.pointer none) w := by kernel_rfl

/-- Labels of steps: which step each one is. -/
def labF (l : List Ms) : Lit → Option Value
  | .int .i64 x => (labOf l x).map fun (k : Nat) => .int .i64 (k : Int)
  | _ => none
/-- No label twice. -/
def labsOk (l : List Ms) : Prop := ((l.filter (fun s => s.code == 6)).map (·.label)).Nodup
end Go.Proofs.YtjmbjpimabnohaaDoor.Mid
