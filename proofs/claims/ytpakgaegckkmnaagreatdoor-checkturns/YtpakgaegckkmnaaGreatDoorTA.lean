/- The parser's expr, held, index, walked, over what bin does. -/
import Derived.Test.YtpakgaegckkmnaaGreatDoorT9
namespace Go.Proofs.YtpakgaegckkmnaaGreatDoor
set_option linter.unusedVariables false
set_option linter.unusedSimpArgs false
open Go Go.RowKit

theorem gSyn : Tryz.prog.globalNamed "strconv.ErrSyntax" = some 9 := by kernel_rfl
theorem gRng : Tryz.prog.globalNamed "strconv.ErrRange" = some 10 := by kernel_rfl
theorem Env.gr {P : Nat} {w w' : World} (h : Env w) (hg : Gr P w w') (hP : 11 ≤ P) : Env w' := by
  obtain ⟨m, hm⟩ := h.max
  obtain ⟨a, b, hs⟩ := h.syn
  obtain ⟨c, d, hr⟩ := h.rng
  have cell : ∀ x o v, x < 11 → w.cell? ⟨x, o, none⟩ = some v → w'.cell? ⟨x, o, none⟩ = some v := fun x o v hx hv => hg.cell hv (by intro e; injection e with e; have : x = P := e; omega)
  have var : ∀ (nm : String) (g : Nat) (cs : Array Value), g < 11 → Tryz.prog.globalNamed nm = some g → w.var? Tryz.prog nm = some cs → w'.var? Tryz.prog nm = some cs := fun nm g cs hlt hn hv => by
    unfold World.var? at *
    simp only [hn, Option.bind_some] at hv ⊢
    have hlt2 : g < w.heap.size := by
      rcases Nat.lt_or_ge g w.heap.size with h1 | h1
      · exact h1
      · rw [Array.getElem?_eq_none h1] at hv; simp at hv
    rw [hg.block g hlt2 (by intro e; injection e with e; omega)]
    exact hv
  exact ⟨⟨m, cell _ _ _ (by omega) hm⟩, fun j v hv => cell _ _ _ (by omega) (h.marks j v hv), fun j v hv => cell _ _ _ (by omega) (h.pairs j v hv), ⟨a, b, var _ 9 _ (by omega) gSyn hs⟩, ⟨c, d, var _ 10 _ (by omega) gRng hr⟩⟩

/-- What a reader of expressions leaves. -/
def ExPost (w : World) (P T : Nat) (r : R Tr) (e : Ending) (w' : World) : Prop :=
  match r with
  | .ok (t, l') => (∃ v o' c', e = .returned v ∧ ExAt (Fr w.heap.size) w' t v ∧ PS w' P T o' c' l') ∧ Gr P w w'
  | .error (k, p) => Threw k p e w' ∧ Gr P w w'
/-- What was read from a later world on. -/
theorem ExPost.back {w w1 w' : World} {P T : Nat} {r : R Tr} {e : Ending} (hg : Gr P w w1) (h : ExPost w1 P T r e w') : ExPost w P T r e w' := by
  match r, h with
  | .ok (t, l'), ⟨⟨v, o', c', a, b, d⟩, g⟩ => exact ⟨⟨v, o', c', a, b.old hg.size, d⟩, hg.trans g⟩
  | .error (k, p), ⟨a, b⟩ => exact ⟨a, hg.trans b⟩
theorem threw_gr {P : Nat} {w w' w'' : World} {k : Int} {p : Nat} {e : Ending} (hg : Gr P w w') (h : Threw k p e w'' ∧ Below w'.heap.size w' w'') : Threw k p e w'' ∧ Gr P w w'' := ⟨h.1, hg.trans (gr_below h.2)⟩
/-- What is known where a reader begins. -/
structure At (w : World) (P T o c d : Nat) (l : List Tok) : Prop where
  env : Env w
  ps : PS w P T o c l
  ends : Ends l
  far : 11 ≤ P
  deep : d + l.length ≤ 100000
def BinC (n : Nat) : Prop := ∀ (lv d : Nat) (w : World) (P T o c : Nat) (l : List Tok), At w P T o c d l → 1 ≤ lv → lv ≤ 7 → 12 * l.length + (10 - lv) ≤ n → Calls Tryz.prog 93 #[.pointer (some ⟨P, 0, none⟩), .int .i64 (lv : Int), .int .i64 (d : Int)] w (ExPost w P T (exV n 0 lv d .nil 0 l))

set_option maxRecDepth 100000 in
set_option maxHeartbeats 2000000 in
theorem expr_walk (n : Nat) (IH : BinC n) (d : Nat) (w : World) (P T o c : Nat) (l : List Tok) (h : At w P T o c d l) (hn : 12 * l.length + 9 ≤ n) :
    Calls Tryz.prog 79 #[.pointer (some ⟨P, 0, none⟩), .int .i64 (d : Int)] w (ExPost w P T (exV n 0 1 d .nil 0 l)) := by
  have HB : Hid (Calls Tryz.prog 93 #[.pointer (some ⟨P, 0, none⟩), .int .i64 1, .int .i64 (d : Int)] w (ExPost w P T (exV n 0 1 d .nil 0 l))) := IH 1 d w P T o c l h (by omega) (by omega) (by omega)
  clear h IH
  cases hr : exV n 0 1 d .nil 0 l with
  | error kp =>
    obtain ⟨k, p⟩ := kp
    rw [hr] at HB
    have HB2 : Hid (Calls Tryz.prog 93 #[.pointer (some ⟨P, 0, none⟩), .int .i64 1, .int .i64 (d : Int)] w fun e w' => Threw k p e w' ∧ Gr P w w') := HB.out
    have HPo : Hid (∀ e w', Threw k p e w' ∧ Gr P w w' → ExPost w P T (.error (k, p)) e w') := fun e w' h => h
    clear HB hr
    go_enter Tryz.func79, Tryz.ntmps79
    go_wp2_with (go_at_call 93; refine HB2.out.mono ?_; rintro e w1 ⟨⟨a, rfl, ha⟩, hg⟩; have HA : Hid (w1.heap[a]? = some (.cells #[.int .i64 k, .int .i64 (p : Int)] 78)) := ha; have HG : Hid (Gr P w w1) := hg; clear ha hg)
    exact ⟨rfl, HPo.out _ _ ⟨⟨a, rfl, HA.out⟩, HG.out⟩⟩
  | ok tl =>
    obtain ⟨t, l'⟩ := tl
    rw [hr] at HB
    have HB2 : Hid (Calls Tryz.prog 93 #[.pointer (some ⟨P, 0, none⟩), .int .i64 1, .int .i64 (d : Int)] w fun e w' => (∃ v o' c', e = .returned v ∧ ExAt (Fr w.heap.size) w' t v ∧ PS w' P T o' c' l') ∧ Gr P w w') := HB.out
    have HPo : Hid (∀ e w', ((∃ v o' c', e = .returned v ∧ ExAt (Fr w.heap.size) w' t v ∧ PS w' P T o' c' l') ∧ Gr P w w') → ExPost w P T (.ok (t, l')) e w') := fun e w' h => h
    clear HB hr
    go_enter Tryz.func79, Tryz.ntmps79
    go_wp2_with (go_at_call 93; refine HB2.out.mono ?_; rintro e w1 ⟨⟨v, o', c', rfl, hx, hp⟩, hg⟩; have HX : Hid (ExAt (Fr w.heap.size) w1 t v) := hx; have HP : Hid (PS w1 P T o' c' l') := hp; have HG : Hid (Gr P w w1) := hg; clear hx hp hg)
    go_ret
    exact HPo.out _ _ ⟨⟨v, o', c', rfl, HX.out, HP.out⟩, HG.out⟩
end Go.Proofs.YtpakgaegckkmnaaGreatDoor
