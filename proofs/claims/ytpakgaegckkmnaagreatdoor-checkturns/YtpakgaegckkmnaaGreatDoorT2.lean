/- Package tree's words, walked: the map of the words that are no names. -/
import Derived.Test.YtpakgaegckkmnaaGreatDoorT1
import Derived.Maps.OwnSet
import Derived.Maps.OwnOps
import Derived.Maps.Views
import Derived.StringKeys
namespace Go.Proofs.YtpakgaegckkmnaaGreatDoor
set_option linter.unusedVariables false
open Go Go.RowKit

/-- Names and numbers as a datum; the first one holds. -/
def plD : List (By × Nat) → DataW Unit
  | [] => .map []
  | (nm, i) :: ps => (plD ps).put (.string nm) (.lit (.int .i64 i))
theorem plD_map : ∀ ps, Maps.IsMap (plD ps)
  | [] => Maps.isMap_empty
  | (_, _) :: ps => (plD_map ps).put _ _
theorem key_ne {a b : By} (h : a ≠ b) : Lit.string a ≠ Lit.string b := fun e => h (by injection e)
theorem plD_at (nm : By) (z : DataW Unit) : ∀ ps, (plD ps).atKey (.string nm) z = (match ps.lookup nm with | some i => .lit (.int .i64 i) | none => z)
  | [] => rfl
  | (x, i) :: ps => by
    by_cases h : nm = x
    · subst h
      rw [plD, Maps.atKey_put_same (plD_map ps) (by trivial)]
      simp [List.lookup]
    · rw [plD, Maps.atKey_put_other (key_ne h), plD_at nm z ps]
      have : (nm == x) = false := by simpa using h
      simp [List.lookup, this]
def wdP : List (By × Nat) := wordsL.reverse.map fun x => (x, 1)
theorem wdP_look (v : By) : wdP.lookup v = if wordsL.contains v then some 1 else none := by
  have h : ∀ l : List By, (l.map fun x => (x, 1)).lookup v = if l.contains v then some 1 else none := fun l => by
    induction l with
    | nil => rfl
    | cons x l ih =>
      rw [List.map_cons, List.lookup_cons, List.contains_cons]
      by_cases e : v = x
      · subst e; simp
      · have : (v == x) = false := by simpa using e
        rw [this, ih]
        simp
  rw [wdP, h]
  have e : wordsL.reverse.contains v = wordsL.contains v := by simp
  rw [e]
/-- The words lie in block b. -/
def MpAt (w : World) (b n : Nat) (ps : List (By × Nat)) : Prop := w.ownsMap Tryz.prog 9 (plainElem (H := Unit) Tryz.prog 73) b n (plD ps)
theorem MpAt.below {w w' : World} {b n : Nat} {ps : List (By × Nat)} (h : MpAt w b n ps) (hb : Below w.heap.size w w') : MpAt w' b n ps :=
  World.ownsMap.kept h (row := none) ⟨hb.os, hb.tape, hb.output, hb.size, fun j hj _ => hb.block j hj⟩ (by simp)
theorem zero73 (w : World) : (zeroValue 73).run Tryz.prog w = .ok (.int .i64 0) w := Tryz.zeroValue73 w
/-- One more word. -/
theorem mp_put {w : World} {b n : Nat} {ps : List (By × Nat)} (h : MpAt w b n ps) (hn : n < 100) (x : ByteArray) (hx : x.size ≤ 100) :
    ∃ w', (Instr.mapUpdate 70 (.map (some b)) (.string x) (.int .i64 1)).run Tryz.prog w = .ok () w' ∧ MpAt w' b (n + 1) ((x.data.toList, 1) :: ps) ∧ w.grownBy w' (some b) := by
  have hK : keyOf Tryz.prog 9 (.string x) = some (.string x.data.toList) := Go.WideMaps.keyOf_string_mk Tryz.underlying9 (by unfold maxLen; omega)
  have hV : plainElem (H := Unit) Tryz.prog 73 (.int .i64 ((1 : Nat) : Int)) = some (.lit (.int .i64 ((1 : Nat) : Int)), []) := plainElem_int Tryz.underlying73 (by decide)
  exact World.ownsMap.update h (Maps.string_keyed Tryz.underlying9) Tryz.underlying70 (by unfold maxLen; omega) hK hV
/-- Which kind a word is. -/
theorem mp_look {w : World} {b n : Nat} (h : MpAt w b n wdP) (s : ByteArray) (hs : s.size ≤ maxLen) :
    (Instr.lookup 70 (.map (some b)) (.string s) false).run Tryz.prog w = .ok (.int .i64 (if wordsL.contains s.data.toList then 1 else 0 : Nat)) w := by
  obtain ⟨c, hrun, hat, hwc⟩ := World.ownsMap.lookup_int h (Maps.string_keyed Tryz.underlying9) Tryz.underlying70 Tryz.underlying73 (zero73 w) (Go.WideMaps.keyOf_string_mk Tryz.underlying9 hs)
  rw [hrun]
  rw [plD_at, wdP_look] at hat
  by_cases hc : wordsL.contains s.data.toList = true
  · rw [if_pos hc] at hat ⊢
    simp at hat
    rw [← hat]
    rfl
  · rw [if_neg hc] at hat ⊢
    simp at hat
    rw [← hat]
    rfl

set_option maxRecDepth 100000 in
set_option maxHeartbeats 2000000 in
theorem words_any (w : World) : Calls Tryz.prog 25 #[] w fun e w' => e = .returned (.map (some w.heap.size)) ∧ MpAt w' w.heap.size 12 wdP ∧ Below w.heap.size w w' := by
  have hmm := @run_makeMap Tryz.prog
  have m0 : MpAt (w.alloc (.map #[] 0)) w.heap.size 0 [] := World.ownsMap_made w Tryz.prog 9 (plainElem (H := Unit) Tryz.prog 73)
  obtain ⟨w1, r1, m1, g1⟩ := mp_put m0 (by omega) ⟨#[102, 110]⟩ (by decide)
  obtain ⟨w2, r2, m2, g2⟩ := mp_put m1 (by omega) ⟨#[105, 110, 116]⟩ (by decide)
  obtain ⟨w3, r3, m3, g3⟩ := mp_put m2 (by omega) ⟨#[97, 114, 114]⟩ (by decide)
  obtain ⟨w4, r4, m4, g4⟩ := mp_put m3 (by omega) ⟨#[118, 97, 114]⟩ (by decide)
  obtain ⟨w5, r5, m5, g5⟩ := mp_put m4 (by omega) ⟨#[114, 101, 116, 117, 114, 110]⟩ (by decide)
  obtain ⟨w6, r6, m6, g6⟩ := mp_put m5 (by omega) ⟨#[112, 114, 105, 110, 116]⟩ (by decide)
  obtain ⟨w7, r7, m7, g7⟩ := mp_put m6 (by omega) ⟨#[105, 102]⟩ (by decide)
  obtain ⟨w8, r8, m8, g8⟩ := mp_put m7 (by omega) ⟨#[101, 108, 115, 101]⟩ (by decide)
  obtain ⟨w9, r9, m9, g9⟩ := mp_put m8 (by omega) ⟨#[119, 104, 105, 108, 101]⟩ (by decide)
  obtain ⟨w10, r10, m10, g10⟩ := mp_put m9 (by omega) ⟨#[110, 101, 119]⟩ (by decide)
  obtain ⟨w11, r11, m11, g11⟩ := mp_put m10 (by omega) ⟨#[108, 101, 110]⟩ (by decide)
  obtain ⟨w12, r12, m12, g12⟩ := mp_put m11 (by omega) ⟨#[105, 110, 112, 117, 116]⟩ (by decide)
  have HM : Hid (MpAt w12 w.heap.size 12 wdP) := m12
  have HB : Hid (Below w.heap.size w w12) := by
    have b0 : Below w.heap.size w (w.alloc (.map #[] 0)) := (Below.refl _ _).alloc (Nat.le_refl _) _
    have st : ∀ {a b : World}, Below w.heap.size w a → a.grownBy b (some w.heap.size) → Below w.heap.size w b := fun ha hg => ha.grown hg ha.size (fun k e => by injection e with e; omega)
    exact st (st (st (st (st (st (st (st (st (st (st (st b0 g1) g2) g3) g4) g5) g6) g7) g8) g9) g10) g11) g12
  clear m0 m1 m2 m3 m4 m5 m6 m7 m8 m9 m10 m11 m12 g1 g2 g3 g4 g5 g6 g7 g8 g9 g10 g11 g12
  go_enter Tryz.func25, Tryz.ntmps25
  go_wp2
  go_ret
  exact ⟨rfl, HM.out, HB.out⟩
end Go.Proofs.YtpakgaegckkmnaaGreatDoor
