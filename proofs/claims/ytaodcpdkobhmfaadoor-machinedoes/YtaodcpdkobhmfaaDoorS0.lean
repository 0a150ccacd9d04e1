/- The document's machine in memory: its cells, its words (a map); its Load, walked. -/
import Derived.Test.YtaodcpdkobhmfaaDoorMI
import Derived.Test.YtaodcpdkobhmfaaDoorE1
import Derived.Maps.OwnOps
import Derived.Maps.Views
namespace Go.Proofs.YtaodcpdkobhmfaaDoor
open Go Go.RowKit Go.Maps

theorem keyed2 : Keyed Tryd.prog 2 := int_keyed Tryd.underlying2
theorem zero2 (w : World) : (zeroValue 2).run Tryd.prog w = .ok (.int .i64 0) w := by kernel_rfl

/-- Block b of w is a map of at most n entries in which W a is read at a. -/
def Words (w : World) (b n : Nat) (W : Int → Int) : Prop :=
  ∃ D : DataW Unit, w.ownsMap Tryd.prog 2 (plainElem Tryd.prog 2) b n D ∧ ∀ a, (Lit.int .i64 a).wf = true → D.atKey (.int .i64 a) (.lit (.int .i64 0)) = .lit (.int .i64 (W a))

/-- .. the words that the bytes M make. -/
def WdsIs (w : World) (b n L : Nat) (M : Nat → Int) : Prop := ∃ W, Words w b n W ∧ ∀ i : Nat, 8 * i + 8 ≤ L → W ((8 * i : Nat) : Int) = ldV M (8 * i)

/-- The struct's cells, and the words. -/
structure Doc (w : World) (s mb n L : Nat) (m : MS) (gv ov : Value) : Prop where
  s0 : s < w.heap.size
  b0 : mb < w.heap.size
  ne : s ≠ mb
  L1 : L ≤ 65536
  reg : ∀ i, i < 32 → w.cell? ⟨s, i, none⟩ = some (.int .i64 (m.R i))
  mem : w.cell? ⟨s, 32, none⟩ = some (.map (some mb))
  siz : w.cell? ⟨s, 33, none⟩ = some (.int .i64 L)
  pc : w.cell? ⟨s, 34, none⟩ = some (.int .i64 m.pc)
  giv : w.cell? ⟨s, 35, none⟩ = some gv
  way : w.cell? ⟨s, 36, none⟩ = some (.int .i64 m.way)
  cod : w.cell? ⟨s, 37, none⟩ = some (.int .i64 m.code)
  out : w.cell? ⟨s, 38, none⟩ = some ov
  wds : WdsIs w mb n L m.M
  fs : ∀ i, w.frozen? ⟨s, i, none⟩ = false

theorem dload_yes (w : World) (s mb n L : Nat) (m : MS) (gv ov : Value) (a : Int) (h : Doc w s mb n L m gv ov) (ha : hasB L a 8 = true) :
    Calls Tryd.prog 12 #[.pointer (some ⟨s, 0, none⟩), .int .i64 a] w fun e w' => e = .returned (.tuple #[.int .i64 (ldV m.M a.toNat), .int .i64 0]) ∧ w' = w := by
  obtain ⟨a0, a1, a2⟩ := has_split ha
  have hL1 := h.L1
  obtain ⟨W, ⟨D, hown, hat⟩, hW⟩ := h.wds
  have hwf : (Lit.int .i64 a).wf = true := WalkArith.wf_i64 (by omega)
  have HA : Hid (D.atKey (.int .i64 a) (.lit (.int .i64 0)) = .lit (.int .i64 (ldV m.M a.toNat))) := by
    have hi := hW (a.toNat / 8) (by omega)
    have e1 : ((8 * (a.toNat / 8) : Nat) : Int) = a := by omega
    have e2 : 8 * (a.toNat / 8) = a.toNat := by omega
    rw [e1, e2] at hi
    show _ = _
    rw [hat a hwf, hi]
  have HO : Hid (w.ownsMap Tryd.prog 2 (plainElem Tryd.prog 2) mb n D) := hown
  have hm := h.mem
  have hs := h.siz
  have hin : (decide (0 ≤ a) && decide (a ≤ (L : Int) - 8)) = true := by simp; omega
  have HI : Hid ((decide (0 ≤ a) && decide (a ≤ (L : Int) - 8)) = true) := hin
  clear hat hown h ha hin hW
  go_enter Tryd.func12, Tryd.ntmps12
  go_wp2_with (first
    | (go_at_call 36; refine (in_any _ _ _ _).mono ?_; rw [HI.out]; rintro e w' ⟨rfl, rfl⟩)
    | (at_lookup; refine wpList_lookup_own_int _ rfl _ _ 56 rfl 2 2 .i64 keyed2 Tryd.underlying56 Tryd.underlying2 (zero2 _) mb n D rfl HO.out _ _ rfl (keyOf_int_mk Tryd.underlying2 hwf) ?_; intro c hc hwc; rw [HA.out] at hc; cases hc)
    | go_in)
  go_ret2
  exact ⟨rfl, rfl⟩

theorem dload_no (w : World) (s mb n L : Nat) (m : MS) (gv ov : Value) (a : Int) (h : Doc w s mb n L m gv ov) (ha : hasB L a 8 = false) :
    Calls Tryd.prog 12 #[.pointer (some ⟨s, 0, none⟩), .int .i64 a] w fun e w' => e = .returned (.tuple #[.int .i64 0, .int .i64 2]) ∧ w' = w := by
  have hL1 := h.L1
  have hs := h.siz
  by_cases h8 : a.tmod 8 = 0
  · have HI : Hid ((decide (0 ≤ a) && decide (a ≤ (L : Int) - 8)) = false) := by
      have : a % 8 = 0 := Int.emod_eq_zero_of_dvd (Int.dvd_of_tmod_eq_zero h8)
      simp [hasB, this] at ha
      show _ = _
      simp; exact ha
    clear h ha
    go_enter Tryd.func12, Tryd.ntmps12
    go_wp2_with (first
      | (go_at_call 36; refine (in_any _ _ _ _).mono ?_; rw [HI.out]; rintro e w' ⟨rfl, rfl⟩)
      | go_in)
    go_ret2
    exact ⟨rfl, rfl⟩
  · clear h ha
    go_enter Tryd.func12, Tryd.ntmps12
    go_wp2
    go_ret2
    exact ⟨rfl, rfl⟩

theorem Words.put {w w' : World} {b n : Nat} {W : Int → Int} {D : DataW Unit} {a v : Int} (hD : w.ownsMap Tryd.prog 2 (plainElem Tryd.prog 2) b n D)
    (hat : ∀ a, (Lit.int .i64 a).wf = true → D.atKey (.int .i64 a) (.lit (.int .i64 0)) = .lit (.int .i64 (W a)))
    (h : w'.ownsMap Tryd.prog 2 (plainElem Tryd.prog 2) b (n + 1) (D.put (.int .i64 a) (.lit (.int .i64 v)))) : Words w' b (n + 1) (fun x => if x = a then v else W x) := by
  refine ⟨_, h, fun x hx => ?_⟩
  show _ = DataW.lit (.int .i64 (if x = a then v else W x))
  by_cases e : x = a
  · subst e
    obtain ⟨es, clock, _, _, _, hm⟩ := hD
    rw [if_pos rfl, atKey_put_same ⟨_, hm⟩ (by simp [WideAt.IsKeyLit])]
  · rw [if_neg e, atKey_put_other (by simpa using e), hat x hx]

theorem WdsIs.put {w' : World} {b n L : Nat} {M : Nat → Int} {W : Int → Int} {a v : Int} (a0 : 0 ≤ a) (a1 : a % 8 = 0) (h0 : -9223372036854775808 ≤ v) (h1 : v ≤ 9223372036854775807) (hW : ∀ i : Nat, 8 * i + 8 ≤ L → W ((8 * i : Nat) : Int) = ldV M (8 * i))
    (h : Words w' b n (fun x => if x = a then v else W x)) : WdsIs w' b n L (layTo M a.toNat (v % 18446744073709551616) 8) := by
  refine ⟨_, h, fun i hi => ?_⟩
  show (if ((8 * i : Nat) : Int) = a then v else W ((8 * i : Nat) : Int)) = _
  by_cases e : ((8 * i : Nat) : Int) = a
  · have e2 : a.toNat = 8 * i := by omega
    rw [if_pos e, e2, ld_in M _ v h0 h1]
  · rw [if_neg e, ld_out M _ _ _ (by omega), hW i hi]

theorem Doc.grown {w w' : World} {s mb n L : Nat} {m : MS} {gv ov : Value} (h : Doc w s mb n L m gv ov) (hg : w.grownBy w' (some mb)) {n' : Nat} {M : Nat → Int} (hW : WdsIs w' mb n' L M) : Doc w' s mb n' L { m with M := M } gv ov := by
  have hb : w'.heap[s]? = w.heap[s]? := hg.block s h.s0 (by simpa using h.ne)
  have hc : ∀ i, w'.cell? ⟨s, i, none⟩ = w.cell? ⟨s, i, none⟩ := fun i => World.cell?_of_block (w := w) hb
  exact ⟨Nat.lt_of_lt_of_le h.s0 hg.size, Nat.lt_of_lt_of_le h.b0 hg.size, h.ne, h.L1, fun i hi => (hc i).trans (h.reg i hi), (hc _).trans h.mem, (hc _).trans h.siz, (hc _).trans h.pc, (hc _).trans h.giv, (hc _).trans h.way, (hc _).trans h.cod, (hc _).trans h.out, hW,
    fun i => (World.frozen?_of_block (w := w) hb).trans (h.fs i)⟩

theorem dstore_yes (w : World) (s mb n L : Nat) (m : MS) (gv ov : Value) (a v : Int) (h : Doc w s mb n L m gv ov) (ha : hasB L a 8 = true) (hv0 : -9223372036854775808 ≤ v) (hv1 : v ≤ 9223372036854775807) (hn : n < 100000) :
    Calls Tryd.prog 15 #[.pointer (some ⟨s, 0, none⟩), .int .i64 a, .int .i64 v] w fun e w' => e = .returned (.int .i64 0) ∧ Doc w' s mb (n + 1) L { m with M := layTo m.M a.toNat (v % 18446744073709551616) 8 } gv ov ∧ w.grownBy w' (some mb) := by
  obtain ⟨a0, a1, a2⟩ := has_split ha
  have hL1 := h.L1
  have hwf : (Lit.int .i64 a).wf = true := WalkArith.wf_i64 (by omega)
  have hv : (Lit.int .i64 v).wf = true := WalkArith.wf_i64 (by omega)
  have HL : Hid (Calls Tryd.prog 12 #[.pointer (some ⟨s, 0, none⟩), .int .i64 a] w fun e w' => e = .returned (.tuple #[.int .i64 (ldV m.M a.toNat), .int .i64 0]) ∧ w' = w) := dload_yes w s mb n L m gv ov a h ha
  have HC : Hid (Doc w s mb n L m gv ov) := h
  obtain ⟨W, ⟨D, hown, hat⟩, hW⟩ := h.wds
  have HO : Hid (w.ownsMap Tryd.prog 2 (plainElem Tryd.prog 2) mb n D) := hown
  have hm := h.mem
  have HM : Hid (∀ w1, w1.ownsMap Tryd.prog 2 (plainElem Tryd.prog 2) mb (n + 1) (D.put (.int .i64 a) (.lit (.int .i64 v))) → w.grownBy w1 (some mb) → Doc w1 s mb (n + 1) L { m with M := layTo m.M a.toNat (v % 18446744073709551616) 8 } gv ov ∧ w.grownBy w1 (some mb)) :=
    fun w1 h1 hg => ⟨HC.out.grown hg (WdsIs.put a0 a1 hv0 hv1 hW (Words.put hown hat h1)), hg⟩
  have HX : Hid (n < maxLen) := by show n < maxLen; unfold maxLen; omega
  clear hat hown h ha hW hv0 hv1
  go_enter Tryd.func15, Tryd.ntmps15
  go_wp2_with (first
    | (go_at_call 12; refine HL.out.mono ?_; rintro e w ⟨rfl, rfl⟩)
    | (at_mapUpdate; refine wpList_mapUpdate_own _ rfl _ _ _ 56 rfl 2 2 keyed2 Tryd.underlying56 _ mb n D rfl HO.out HX.out _ _ _ rfl rfl (keyOf_int_mk Tryd.underlying2 hwf) _ [] (plainElem_int Tryd.underlying2 hv) ?_; intro w1 hw1 hg1; have HZ : Hid (Doc w1 s mb (n + 1) L { m with M := layTo m.M a.toNat (v % 18446744073709551616) 8 } gv ov ∧ w.grownBy w1 (some mb)) := HM.out w1 hw1 hg1; clear hw1 hg1)
    | go_in)
  go_ret
  exact ⟨rfl, HZ.out⟩

theorem dstore_no (w : World) (s mb n L : Nat) (m : MS) (gv ov : Value) (a v : Int) (h : Doc w s mb n L m gv ov) (ha : hasB L a 8 = false) :
    Calls Tryd.prog 15 #[.pointer (some ⟨s, 0, none⟩), .int .i64 a, .int .i64 v] w fun e w' => e = .returned (.int .i64 2) ∧ w' = w := by
  have HL : Hid (Calls Tryd.prog 12 #[.pointer (some ⟨s, 0, none⟩), .int .i64 a] w fun e w' => e = .returned (.tuple #[.int .i64 0, .int .i64 2]) ∧ w' = w) := dload_no w s mb n L m gv ov a h ha
  clear h ha
  go_enter Tryd.func15, Tryd.ntmps15
  go_wp2_with (first
    | (go_at_call 12; refine HL.out.mono ?_; rintro e w' ⟨rfl, rfl⟩)
    | go_in)
  go_ret
  exact ⟨rfl, rfl⟩
end Go.Proofs.YtaodcpdkobhmfaaDoor
