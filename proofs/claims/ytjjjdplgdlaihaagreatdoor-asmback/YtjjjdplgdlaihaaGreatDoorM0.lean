/- The places in memory: a map from names to numbers; mark walked. -/
import Derived.Test.YtjjjdplgdlaihaaGreatDoorB8
import Derived.Maps.OwnSet
import Derived.Maps.OwnOps
import Derived.Maps.Views
import Derived.StringKeys
namespace Go.Proofs.YtjjjdplgdlaihaaGreatDoor
open Go Go.RowKit

/-- The places as a datum. -/
def plD : Places → DataW Unit
  | [] => .map []
  | (nm, i) :: ps => (plD ps).put (.string nm) (.lit (.int .i64 i))
theorem plD_map : ∀ ps, Maps.IsMap (plD ps)
  | [] => Maps.isMap_empty
  | (_, _) :: ps => (plD_map ps).put _ _
theorem key_ne {a b : By} (h : a ≠ b) : Lit.string a ≠ Lit.string b := fun e => h (by injection e)
theorem plD_has (nm : By) : ∀ ps, Maps.has (plD ps) (.string nm) = (ps.lookup nm).isSome
  | [] => rfl
  | (x, i) :: ps => by
    by_cases h : nm = x
    · subst h
      rw [plD, Maps.has_put_same (plD_map ps) (by trivial)]
      simp [List.lookup]
    · rw [plD, Maps.has_put_other (key_ne h), plD_has nm ps]
      have : (nm == x) = false := by simpa using h
      simp [List.lookup, this]
theorem plD_at (nm : By) (z : DataW Unit) : ∀ ps, (plD ps).atKey (.string nm) z = (match ps.lookup nm with | some i => .lit (.int .i64 i) | none => z)
  | [] => rfl
  | (x, i) :: ps => by
    by_cases h : nm = x
    · subst h
      rw [plD, Maps.atKey_put_same (plD_map ps) (by trivial)]
      simp [List.lookup]
    · rw [plD, Maps.atKey_put_other (key_ne h), plD_at nm z ps]
      have : (nm == x) = false := by simpa using h
      simp [List.lookup, this]

/-- The places lie in block b. -/
def PlAt (w : World) (b n : Nat) (ps : Places) : Prop := w.ownsMap Tryz.prog 9 (plainElem (H := Unit) Tryz.prog 3) b n (plD ps)
theorem zero3 (w : World) : (zeroValue 3).run Tryz.prog w = .ok (.int .i64 0) w := Tryz.zeroValue3 w

/-- What is looked up. -/
theorem look_any {w : World} {b n : Nat} {ps : Places} (h : PlAt w b n ps) (s : ByteArray) (hs : s.size ≤ maxLen) :
    ∃ i : Int, (Instr.lookup 53 (.map (some b)) (.string s) true).run Tryz.prog w = .ok (.tuple #[.int .i64 i, .bool (ps.lookup s.data.toList).isSome]) w ∧ (∀ j, ps.lookup s.data.toList = some j → i = j) := by
  obtain ⟨v, pl, hrun, hv⟩ := World.ownsMap.look_ok h (Maps.string_keyed Tryz.underlying9) Tryz.underlying53 (zero3 w) (plainElem_int Tryz.underlying3 (by rfl)) (Go.WideMaps.keyOf_string_mk Tryz.underlying9 hs)
  rw [plD_has] at hrun
  rw [plD_at] at hv
  have hform : ∃ i : Int, v = .int .i64 i := by
    cases v <;> simp [plainElem, Tryz.underlying3] at hv
    obtain ⟨⟨rfl, _⟩, _⟩ := hv
    exact ⟨_, rfl⟩
  obtain ⟨i, rfl⟩ := hform
  refine ⟨i, hrun, fun j hj => ?_⟩
  rw [hj] at hv
  simp [plainElem, Tryz.underlying3] at hv
  exact hv.2.1

/-- What a mark comes to: the Errno. -/
def mkV (nm : By) (ps : Places) : Int := if nameV nm = false then 3 else if (ps.lookup nm).isSome then 9 else 0
/-- .. and the places behind it. -/
def mkP (nm : By) (i : Nat) (ps : Places) : Places := if nameV nm = false then ps else if (ps.lookup nm).isSome then ps else (nm, i) :: ps

set_option maxRecDepth 100000 in
set_option maxHeartbeats 2000000 in
theorem mark_any (w : World) (b n i : Nat) (ps : Places) (s : ByteArray) (h : PlAt w b n ps) (hn : n < maxLen) (hs : s.size ≤ maxLen) (hi : i < 4294967281) :
    Calls Tryz.prog 26 #[.map (some b), .string s, .int .i64 i] w fun e w' => e = .returned (.int .i64 (mkV s.data.toList ps)) ∧ PlAt w' b (n + 1) (mkP s.data.toList i ps) ∧ w.grownBy w' (some b) := by
  have HN : Hid (Calls Tryz.prog 9 #[.string s] w fun e w' => e = .returned (.bool (nameV s.data.toList)) ∧ w' = w) := name_any s w (by unfold maxLen at hs; omega)
  obtain ⟨v, hrun, _⟩ := look_any h s hs
  have HP : Hid (PlAt w b n ps) := h
  have HG : Hid (w.grownBy w (some b)) := ⟨rfl, rfl, rfl, Nat.le_refl _, fun _ _ _ => rfl⟩
  cases hnm : nameV s.data.toList with
  | false =>
    have e1 : mkV s.data.toList ps = 3 := by rw [mkV, if_pos hnm]
    have e2 : mkP s.data.toList i ps = ps := by rw [mkP, if_pos hnm]
    rw [e1, e2]
    rw [hnm] at HN
    clear h e1 e2
    go_enter Tryz.func26, Tryz.ntmps26
    go_wp2_with (go_at_call 9; refine HN.out.mono ?_; rintro e w' ⟨rfl, rfl⟩)
    go_ret
    exact ⟨rfl, HP.out.mono (by omega), HG.out⟩
  | true =>
    rw [hnm] at HN
    cases hl : (ps.lookup s.data.toList).isSome with
    | true =>
      have e1 : mkV s.data.toList ps = 9 := by rw [mkV, if_neg (by rw [hnm]; decide), if_pos hl]
      have e2 : mkP s.data.toList i ps = ps := by rw [mkP, if_neg (by rw [hnm]; decide), if_pos hl]
      rw [e1, e2]
      rw [hl] at hrun
      clear h e1 e2 hl hnm
      go_enter Tryz.func26, Tryz.ntmps26
      go_wp2_with (go_at_call 9; refine HN.out.mono ?_; rintro e w' ⟨rfl, rfl⟩)
      go_ret
      exact ⟨rfl, HP.out.mono (by omega), HG.out⟩
    | false =>
      have e1 : mkV s.data.toList ps = 0 := by rw [mkV, if_neg (by rw [hnm]; decide), if_neg (by rw [hl]; decide)]
      have e2 : mkP s.data.toList i ps = (s.data.toList, i) :: ps := by rw [mkP, if_neg (by rw [hnm]; decide), if_neg (by rw [hl]; decide)]
      rw [e1, e2]
      rw [hl] at hrun
      have HK : Hid (keyOf Tryz.prog 9 (.string s) = some (.string s.data.toList)) := Go.WideMaps.keyOf_string_mk Tryz.underlying9 hs
      have HW : Hid ((Lit.int .i64 (i : Int)).wf = true) := WalkArith.wf_i64 (by omega)
      clear h e1 e2 hl hnm
      go_enter Tryz.func26, Tryz.ntmps26
      go_wp2_with (first
        | (go_at_call 9; refine HN.out.mono ?_; rintro e w' ⟨rfl, rfl⟩)
        | (at_mapUpdate; refine wpList_mapUpdate_own _ rfl _ _ _ 53 rfl 9 3 (Maps.string_keyed Tryz.underlying9) Tryz.underlying53 (plainElem (H := Unit) Tryz.prog 3) b n (plD ps) rfl HP.out hn _ _ _ rfl rfl HK.out _ [] (plainElem_int Tryz.underlying3 HW.out) ?_))
      intro w1 hown hgrow
      have HO : Hid (PlAt w1 b (n + 1) ((s.data.toList, i) :: ps)) := hown
      have HR : Hid (w'.grownBy w1 (some b)) := hgrow
      clear hown hgrow
      go_wp2
      go_ret
      exact ⟨rfl, HO.out, HR.out⟩
end Go.Proofs.YtjjjdplgdlaihaaGreatDoor
