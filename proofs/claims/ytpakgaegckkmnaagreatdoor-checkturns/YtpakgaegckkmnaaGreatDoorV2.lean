/- holds, writeHeld, writeItem, walked, over what write does. -/
import Derived.Test.YtpakgaegckkmnaaGreatDoorV1
namespace Go.Proofs.YtpakgaegckkmnaaGreatDoor
set_option linter.unusedVariables false
set_option linter.unusedSimpArgs false
open Go Go.RowKit

theorem gPow : Tryz.prog.globalNamed "internal/strconv.uint64pow10" = some 4 := by kernel_rfl
theorem Env.low {B : Nat} {w w' : World} (h : Env w) (hb : Below B w w') (hB : 11 ≤ B) : Env w' := by
  have hsz := h.lt
  have hs := hb.size
  obtain ⟨m, hm⟩ := h.max
  obtain ⟨a, b, hsy⟩ := h.syn
  obtain ⟨c, d, hr⟩ := h.rng
  have cell : ∀ x o v, x < 11 → w.cell? ⟨x, o, none⟩ = some v → w'.cell? ⟨x, o, none⟩ = some v := fun x o v hx hv => (World.cell?_of_block (a := ⟨x, o, none⟩) (hb.block x (by omega))).trans hv
  have var : ∀ (nm : String) (g : Nat) (cs : Array Value), g < 11 → Tryz.prog.globalNamed nm = some g → w.var? Tryz.prog nm = some cs → w'.var? Tryz.prog nm = some cs := fun nm g cs hlt hn hv => by
    unfold World.var? at *
    simp only [hn, Option.bind_some] at hv ⊢
    rw [hb.block g (by omega)]
    exact hv
  exact ⟨⟨m, cell _ _ _ (by omega) hm⟩, fun j v hv => cell _ _ _ (by omega) (h.marks j v hv), fun j v hv => cell _ _ _ (by omega) (h.pairs j v hv), ⟨a, b, var _ 9 _ (by omega) gSyn hsy⟩, ⟨c, d, var _ 10 _ (by omega) gRng hr⟩⟩
theorem EnvW.go {B b : Nat} {w w' : World} (h : EnvW B w) (hf : FrB B b w w') : EnvW B w' := by
  refine ⟨h.env.low hf.low h.far, ?_, h.far, Nat.le_trans h.le hf.size⟩
  have hv := h.pow
  unfold Pw Lib.TabIs World.var? at *
  simp only [gPow, Option.bind_some] at hv ⊢
  rw [hf.low.block 4 (by have := h.far; omega)]
  exact hv
/-- The cells of a node. -/
theorem nd_open {S : Nat → Prop} {w : World} {c a n : Int} {nm op : By} {l r g : Tr} {v : Value} (h : ExAt S w (nd c a n nm op l r g) v) :
    ∃ (q : Nat) (vl vr vg : Value) (ys : List Value), S q ∧ v = .pointer (some ⟨q, 0, none⟩) ∧ w.heap[q]? = some (.cells #[.int .i64 c, .int .i64 a, .int .i64 n, str nm, str op, vl, vr, vg] 134) ∧ ExAt S w l vl ∧ ExAt S w r vr ∧ w.ownsRow 0 84 1 vg ys.length ys ∧ (∀ i, vg.ownBlock = some i → S i) ∧ ExAt S w g (.tuple ys.toArray) := by
  rw [ExAt] at h
  exact h

set_option maxRecDepth 100000 in
set_option maxHeartbeats 4000000 in
theorem holds_at {S : Nat → Prop} {w : World} {c a n : Int} {nm op : By} {l r g : Tr} {v : Value} (he : Env w) (h : ExAt S w (nd c a n nm op l r g) v) :
    Calls Tryz.prog 82 #[v] w fun e w' => e = .returned (.int .i64 (holdsV (nd c a n nm op l r g) : Nat)) ∧ Below w.heap.size w w' := by
  obtain ⟨q, vl, vr, vg, ys, _, rfl, hq, _⟩ := nd_open h
  obtain ⟨y, hy, hyt⟩ := str_y op
  rw [hy] at hq
  have c0 := cell_at (i := 0) hq rfl
  have c4 := cell_at (i := 4) hq rfl
  have HN : Hid (Calls Tryz.prog 66 #[.string y] w fun e w' => e = .returned (.int .i64 (nearV op : Nat)) ∧ Below w.heap.size w w') := by
    have := near_any y w he
    rw [hyt] at this
    exact this
  by_cases h3 : c = 3
  · subst h3
    have HV : Hid (holdsV (nd 3 a n nm op l r g) = nearV op) := by show holdsV _ = _; simp [holdsV]
    rw [HV.out]
    clear h hq hy hyt he
    go_enter Tryz.func82, Tryz.ntmps82
    go_wp2_with (go_at_call 66; fail)
    refine HN.out.mono ?_
    rintro e w1 ⟨rfl, hb⟩
    have HB : Hid (Below w.heap.size w w1) := hb
    clear hb
    go_wp2
    go_ret
    exact ⟨rfl, HB.out⟩
  · by_cases h4 : c = 4
    · subst h4
      have HV : Hid (holdsV (nd 4 a n nm op l r g) = 7) := by show holdsV _ = _; simp [holdsV]
      rw [HV.out]
      clear h hq hy hyt he h3
      go_enter Tryz.func82, Tryz.ntmps82
      go_wp2
      go_ret
      exact ⟨rfl, Below.refl _ _⟩
    · have HV : Hid (holdsV (nd c a n nm op l r g) = 8) := by show holdsV _ = _; simp [holdsV, h3, h4]
      rw [HV.out]
      have b3 : (c == 3) = false := by simpa using h3
      have b4 : (c == 4) = false := by simpa using h4
      clear h hq hy hyt he
      go_enter Tryz.func82, Tryz.ntmps82
      go_wp2
      go_ret
      exact ⟨rfl, Below.refl _ _⟩

/-- write of a tree does what the model says. -/
def WrC (t : Tr) : Prop := ∀ (S : Nat → Prop) (B b : Nat) (s : By) (w : World) (v : Value), EnvW B w → Bd B b s w → ExAt S w t v → s.length + (wrT t).length ≤ 100000000000 → Calls Tryz.prog 52 #[.pointer (some ⟨b, 0, none⟩), v] w (WPost B b s (wrT t) w)

set_option maxRecDepth 100000 in
set_option maxHeartbeats 4000000 in
theorem item_at {t : Tr} (IH : WrC t) (S : Nat → Prop) (B b : Nat) (s : By) (w : World) (v : Value) (he : EnvW B w) (hb : Bd B b s w) (hx : ExAt S w t v) (hl : s.length + (wrT t).length + 2 ≤ 100000000000) :
    Calls Tryz.prog 51 #[.pointer (some ⟨b, 0, none⟩), v] w (WPost B b s ([91] ++ wrT t ++ [93]) w) := by
  have H1 : Hid (Calls Tryz.prog 17 #[.pointer (some ⟨b, 0, none⟩), .string ⟨#[91]⟩] w fun e w' => e = .returned (.tuple #[.int .i64 1, .nilIface]) ∧ Bd B b (s ++ [91]) w' ∧ FrB B b w w') := ws ⟨#[91]⟩ hb he.le (by show _ + 1 ≤ _; omega)
  have H2 : Hid (∀ w1, Bd B b (s ++ [91]) w1 → FrB B b w w1 → Calls Tryz.prog 52 #[.pointer (some ⟨b, 0, none⟩), v] w1 fun e w' => e = .returned (.tuple #[]) ∧ Bd B b (s ++ [91] ++ wrT t) w' ∧ FrB B b w w') := fun w1 h1 h2 => (IH S B b _ w1 v (he.go h2) h1 ((h2.keeps S hb).ex hx) (by simp; omega)).mono fun e w' ⟨a, c, d⟩ => ⟨a, c, h2.trans d⟩
  have H3 : Hid (∀ w1, Bd B b (s ++ [91] ++ wrT t) w1 → FrB B b w w1 → Calls Tryz.prog 17 #[.pointer (some ⟨b, 0, none⟩), .string ⟨#[93]⟩] w1 fun e w' => e = .returned (.tuple #[.int .i64 1, .nilIface]) ∧ Bd B b (s ++ [91] ++ wrT t ++ [93]) w' ∧ FrB B b w w') := fun w1 h1 h2 => (ws ⟨#[93]⟩ h1 (he.go h2).le (by show _ + 1 ≤ _; simp; omega)).mono fun e w' ⟨a, c, d⟩ => ⟨a, c, h2.trans d⟩
  have HPo : Hid (∀ w', Bd B b (s ++ [91] ++ wrT t ++ [93]) w' → FrB B b w w' → WPost B b s ([91] ++ wrT t ++ [93]) w (.returned (.tuple #[])) w') := fun w' h1 h2 => ⟨rfl, by simpa using h1, h2⟩
  clear he hb hx hl IH
  go_enter Tryz.func51, Tryz.ntmps51
  go_wp2_with (go_at_call 17; fail)
  refine H1.out.mono ?_
  rintro e w1 ⟨rfl, hd1, hf1⟩
  have HD1 : Hid (Bd B b (s ++ [91]) w1) := hd1
  have HF1 : Hid (FrB B b w w1) := hf1
  clear hd1 hf1
  go_wp2_with (go_at_call 52; fail)
  refine (H2.out w1 HD1.out HF1.out).mono ?_
  rintro e w2 ⟨rfl, hd1, hf1⟩
  have HD2 : Hid (Bd B b (s ++ [91] ++ wrT t) w2) := hd1
  have HF2 : Hid (FrB B b w w2) := hf1
  clear hd1 hf1
  go_wp2_with (go_at_call 17; fail)
  refine (H3.out w2 HD2.out HF2.out).mono ?_
  rintro e w3 ⟨rfl, hd1, hf1⟩
  have HD3 : Hid (Bd B b (s ++ [91] ++ wrT t ++ [93]) w3) := hd1
  have HF3 : Hid (FrB B b w w3) := hf1
  clear hd1 hf1
  go_wp2
  go_end0
  exact HPo.out w3 HD3.out HF3.out
end Go.Proofs.YtpakgaegckkmnaaGreatDoor
