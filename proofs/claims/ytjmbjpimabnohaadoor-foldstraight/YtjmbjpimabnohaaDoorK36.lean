/- GQ GV -/
import Derived.Test.YtjmbjpimabnohaaDoorK35
namespace Go.Proofs.YtjmbjpimabnohaaDoor.Mid
set_option linter.unusedVariables false
set_option linter.unusedSimpArgs false
open Go Go.RowKit
theorem Lef.le {nt : Nat} {z : Int} {l : List Ms} (h : Lef nt z l) : l.length ≤ 2 := by
  obtain ⟨r, _, _, rfl | ⟨rfl, _⟩⟩ := h <;> simp
theorem Lef.mem {nt : Nat} {z : Int} {l : List Ms} (h : Lef nt z l) : ∀ s ∈ l, ∃ r : Nat, r < nt ∧ I64 z ∧ (s = cn (r : Int) z ∨ s = rt (r : Int)) := fun s hs => by
  obtain ⟨r, hr, hz, rfl | ⟨rfl, _⟩⟩ := h
  · simp at hs
    exact ⟨r, hr, hz, hs⟩
  · simp at hs
    exact ⟨r, hr, hz, .inr hs⟩
theorem Lef.rt {nt : Nat} {z : Int} {l : List Ms} (h : Lef nt z l) : ∀ s ∈ l, s.code = 8 → s = rt s.a := fun s hs hc => by
  obtain ⟨r, _, _, rfl | rfl⟩ := h.mem s hs
  · cases hc
  · rfl
theorem Lef.good {nt : Nat} {z : Int} {l : List Ms} (h : Lef nt z l) (hn : nt ≤ 1000000) : Good nt z l := by
  obtain ⟨r, hr, hz, h⟩ := h
  rcases h with rfl | ⟨rfl, rfl⟩
  · have e0 : ([cn (r : Int) z, Mid.rt (r : Int)] : List Ms)[0]? = some (cn (r : Int) z) := rfl
    have e1 : ([cn (r : Int) z, Mid.rt (r : Int)] : List Ms)[1]? = some (Mid.rt (r : Int)) := rfl
    have a1 : envA [cn (r : Int) z, Mid.rt (r : Int)] 1 = up (fun _ => 0) r z := rfl
    have a2 : envA [cn (r : Int) z, Mid.rt (r : Int)] 2 = up (up (fun _ => 0) r z) 0 (bothV [] (up (fun _ => 0) r z r) (up (fun _ => 0) r z 0)).1 := rfl
    have iu : ∀ p, I64 (up (fun _ => 0) r z p) := fun p => by unfold up; split; exact hz; (show I64 (0 : Int)); exact ⟨by omega, by omega⟩
    have ib : I64 (bothV [] (up (fun _ => 0) r z r) (up (fun _ => 0) r z 0)).1 := i64_both (iu r)
    have mem : ∀ s ∈ [cn (r : Int) z, Mid.rt (r : Int)], s = cn (r : Int) z ∨ s = Mid.rt (r : Int) := fun s hs => by simpa using hs
    have ae : ∀ i, I64 (0 : Int) → ∀ p, I64 (envA [cn (r : Int) z, Mid.rt (r : Int)] i p) := fun i h0 => by
      induction i with
      | zero => exact fun _ => h0
      | succ i ih =>
        match i, ih with
        | 0, _ => rw [a1]; exact iu
        | 1, _ =>
          intro p
          rw [a2]
          unfold up
          split
          · exact ib
          · exact iu p
        | i + 2, ih => exact ih
    refine ⟨⟨by simp, by simp, fun s hs => ?_, fun s hs => ?_, fun j s hs hc => ?_, fun s hs => ?_⟩, fun i s hs hc => ?_, fun s hs hc => ?_, fun s hs hc => ?_, fun i s hs hc => ?_, fun i p => ae i ⟨by omega, by omega⟩ p, fun i s hs hc => ?_, fun s hs => ?_, fun s hs => ?_⟩
    · rcases mem s hs with rfl | rfl
      · exact ⟨.inl rfl, fun _ => ⟨by show (0 : Int) ≤ r; omega, by show (r : Int) < nt; omega⟩, fun e => absurd rfl e, fun e => (by cases e)⟩
      · exact ⟨.inr (.inr (.inr rfl)), fun e => absurd rfl e, fun _ => ⟨by show (0 : Int) ≤ r; omega, by show (r : Int) < nt; omega⟩, fun e => (by cases e)⟩
    · have : s = Mid.rt (r : Int) := by
        have h1 : ([cn (r : Int) z, Mid.rt (r : Int)] : List Ms)[1]? = some s := hs
        rw [e1] at h1
        injection h1 with h1
        exact h1.symm
      rw [this]; rfl
    · match j, hs with
      | 0, hs => rw [e0] at hs; injection hs with hs; subst hs; cases hc
      | 1, _ => rfl
      | j + 2, hs => simp at hs
    · rcases mem s hs with rfl | rfl <;> rfl
    · match i, hs with
      | 0, hs => rw [e0] at hs; injection hs with hs; subst hs; show (0 : Int) ≤ r; omega
      | 1, hs => rw [e1] at hs; injection hs with hs; subst hs; exact absurd rfl hc
      | i + 2, hs => simp at hs
    · rcases mem s hs with rfl | rfl <;> rcases hc with hc | hc <;> cases hc
    · rcases mem s hs with rfl | rfl <;> cases hc
    · rcases mem s (List.mem_of_getElem? hs) with rfl | rfl <;> cases hc
    · match i, hs with
      | 0, hs => rw [e0] at hs; injection hs with hs; subst hs; exact hz
      | 1, hs => rw [e1] at hs; injection hs with hs; subst hs; exact absurd rfl hc
      | i + 2, hs => simp at hs
    · have ir : I64 (r : Int) := ⟨by omega, by omega⟩
      have i0 : I64 (0 : Int) := ⟨by omega, by omega⟩
      have i1 : I64 (1 : Int) := ⟨by omega, by omega⟩
      have i8 : I64 (8 : Int) := ⟨by omega, by omega⟩
      rcases mem s hs with rfl | rfl
      · exact ⟨by simp [cn], rfl, rfl, i1, ir, i0, i0, i0, hz, i0⟩
      · exact ⟨by simp [Mid.rt], rfl, rfl, i8, i0, ir, i0, i0, i0, i0⟩
    · have : s = Mid.rt (r : Int) := by
        have h1 : ([cn (r : Int) z, Mid.rt (r : Int)] : List Ms)[1]? = some s := hs
        rw [e1] at h1
        injection h1 with h1
        exact h1.symm
      subst this
      show up (fun _ => 0) r z r = z
      unfold up
      rw [if_pos rfl]
  · have e0 : ([Mid.rt (r : Int)] : List Ms)[0]? = some (Mid.rt (r : Int)) := rfl
    have a1 : envA [Mid.rt (r : Int)] 1 = up (fun _ => 0) 0 (bothV [] 0 0).1 := rfl
    have ib : I64 (bothV [] 0 0).1 := i64_both ⟨by omega, by omega⟩
    have mem : ∀ s ∈ [Mid.rt (r : Int)], s = Mid.rt (r : Int) := fun s hs => by simpa using hs
    have ae : ∀ i, I64 (0 : Int) → ∀ p, I64 (envA [Mid.rt (r : Int)] i p) := fun i h0 => by
      induction i with
      | zero => exact fun _ => h0
      | succ i ih =>
        match i, ih with
        | 0, _ =>
          intro p
          rw [a1]
          unfold up
          split
          · exact ib
          · exact h0
        | i + 1, ih => exact ih
    have at0 : ∀ (i : Nat) (s : Ms), ([Mid.rt (r : Int)] : List Ms)[i]? = some s → i = 0 ∧ s = Mid.rt (r : Int) := fun i s hs => by
      match i, hs with
      | 0, hs => rw [e0] at hs; injection hs with hs; exact ⟨rfl, hs.symm⟩
      | i + 1, hs => simp at hs
    refine ⟨⟨by simp, by simp, fun s hs => ?_, fun s hs => ?_, fun j s hs hc => ?_, fun s hs => ?_⟩, fun i s hs hc => ?_, fun s hs hc => ?_, fun s hs hc => ?_, fun i s hs hc => ?_, fun i p => ae i ⟨by omega, by omega⟩ p, fun i s hs hc => ?_, fun s hs => ?_, fun s hs => ?_⟩
    · rw [mem s hs]
      exact ⟨.inr (.inr (.inr rfl)), fun e => absurd rfl e, fun _ => ⟨by show (0 : Int) ≤ r; omega, by show (r : Int) < nt; omega⟩, fun e => (by cases e)⟩
    · rw [(at0 _ _ hs).2]; rfl
    · rw [(at0 _ _ hs).1]; rfl
    · rw [mem s hs]; rfl
    · rw [(at0 _ _ hs).2] at hc; exact absurd rfl hc
    · rw [mem s hs] at hc; rcases hc with hc | hc <;> cases hc
    · rw [mem s hs] at hc; cases hc
    · rw [(at0 _ _ hs).2] at hc; cases hc
    · rw [(at0 _ _ hs).2] at hc; exact absurd rfl hc
    · have ir : I64 (r : Int) := ⟨by omega, by omega⟩
      have i0 : I64 (0 : Int) := ⟨by omega, by omega⟩
      have i8 : I64 (8 : Int) := ⟨by omega, by omega⟩
      rw [mem s hs]
      exact ⟨by simp [Mid.rt], rfl, rfl, i8, i0, ir, i0, i0, i0, i0⟩
    · rfl
theorem isB_one {tl : List Int} {nt : Nat} (hl : tl.length = nt) (h1 : ∀ x ∈ tl, x = 1) {nm : By} {l : List Ms} {p : Int} (h0 : 0 ≤ p) (hp : p < nt) : isB ⟨nm, 0, tl, l⟩ p 1 = true := by
  have hx : tl.getD p.toNat 0 = 1 := by
    rw [List.getD_eq_getElem?_getD, List.getElem?_eq_getElem (by omega : p.toNat < tl.length)]
    exact h1 _ (List.getElem_mem _)
  unfold isB
  show (decide (0 ≤ p ∧ p < (tl.length : Int)) && (tl.getD p.toNat 0 == 1)) = true
  rw [hx, decide_eq_true (by omega)]
  rfl
theorem good_right {nt : Nat} {z : Int} {l : List Ms} {tl : List Int} (h : Good nt z l) (hm : ∀ s ∈ l, s.code = 3 → markB s.op = true) (hl : tl.length = nt) (h1 : ∀ x ∈ tl, x = 1) (hn : nt ≤ 3000) : rightV [⟨mainB, 0, tl, l⟩] = true := by
  have hle := h.st.le
  have hps := h.st.pos
  have hfs : fsL [⟨mainB, 0, tl, l⟩] mainB = some ⟨mainB, 0, tl, l⟩ := rfl
  rw [rv_5 (by simp) (by simp) rfl]
  · simp only [List.all_cons, List.all_nil, Bool.and_true]
    rw [rb_4 (by show 1 ≤ l.length ∧ l.length ≤ 6000; omega)]
    · rw [List.all_eq_true]
      intro s hs
      have hst := h.st.all s hs
      have hs' : s ∈ l := hs
      rcases hst.code with hc | hc | hc | hc
      · obtain ⟨d0, d1⟩ := hst.dst (by rw [hc]; decide)
        rw [sb_yes (cd := 1) hc (by omega) (by omega)]
        have e1 := isB_one hl h1 (nm := mainB) (l := l) d0 d1
        simp [allB, hasB, frm, besB, hc, e1]
      · obtain ⟨d0, d1⟩ := hst.dst (by rw [hc]; decide)
        obtain ⟨a0, a1⟩ := hst.a (by rw [hc]; decide)
        rw [sb_yes (cd := 2) hc (by omega) (by omega)]
        have e1 := isB_one hl h1 (nm := mainB) (l := l) d0 d1
        have e2 := isB_one hl h1 (nm := mainB) (l := l) a0 a1
        simp [allB, hasB, frm, besB, hc, e1, e2]
      · obtain ⟨d0, d1⟩ := hst.dst (by rw [hc]; decide)
        obtain ⟨a0, a1⟩ := hst.a (by rw [hc]; decide)
        obtain ⟨b0, b1⟩ := hst.b hc
        rw [sb_yes (cd := 3) hc (by omega) (by omega)]
        have e1 := isB_one hl h1 (nm := mainB) (l := l) d0 d1
        have e2 := isB_one hl h1 (nm := mainB) (l := l) a0 a1
        have e3 := isB_one hl h1 (nm := mainB) (l := l) b0 b1
        simp [allB, hasB, frm, besB, hc, e1, e2, e3, hm s hs' hc]
      · obtain ⟨a0, a1⟩ := hst.a (by rw [hc]; decide)
        rw [sb_yes (cd := 8) hc (by omega) (by omega)]
        have e2 := isB_one hl h1 (nm := mainB) (l := l) a0 a1
        simp [allB, hasB, frm, besB, hc, e2]
    · unfold lastB
      obtain ⟨s, hs⟩ : ∃ s, l[l.length - 1]? = some s := ⟨l[l.length - 1]'(by omega), List.getElem?_eq_getElem _⟩
      show (match l[l.length - 1]? with | some s => s.code == 8 || s.code == 4 | none => false) = true
      rw [hs]
      show (s.code == 8 || s.code == 4) = true
      rw [h.st.last s hs]
      rfl
    · unfold labsOk
      have : l.filter (fun s => s.code == 6) = [] := by
        rw [List.filter_eq_nil_iff]
        intro s hs
        rcases (h.st.all s hs).code with hc | hc | hc | hc <;> rw [hc] <;> decide
      show ((l.filter (fun s => s.code == 6)).map (·.label)).Nodup
      rw [this]
      simp
  · simp only [List.all_cons, List.all_nil, Bool.and_true]
    rw [pl_4 (by show ¬ (0 : Int) < 0; omega) (by show ¬ ((tl.length : Int)) < 0; omega) (by show ¬ 3000 < tl.length; omega), List.all_eq_true]
    intro x hx
    rw [h1 x hx]
    rfl
theorem lef_run {nt : Nat} {z : Int} {l : List Ms} {tl : List Int} (h : Lef nt z l) (hl : tl.length = nt) (h1 : ∀ x ∈ tl, x = 1) (hn : nt ≤ 3000) : runV 11 [⟨mainB, 0, tl, l⟩] [] 10 = (1, z, []) := by
  have hr := good_right (h.good (by omega)) (fun s hs hc => by
    obtain ⟨r, _, _, rfl | rfl⟩ := h.mem s hs <;> cases hc) hl h1 hn
  have hfs : fsL [⟨mainB, 0, tl, l⟩] mainB = some ⟨mainB, 0, tl, l⟩ := rfl
  unfold runV
  rw [if_pos hr, hfs]
  obtain ⟨r, hrn, hz, h⟩ := h
  have hrun : ∃ s : Sg, callG (fsL [⟨mainB, 0, tl, l⟩]) 11 0 ⟨mainB, 0, tl, l⟩ (List.replicate tl.length (0, none)) ⟨10, [], [], []⟩ = .ok (z, s) ∧ s.out = [] := by
    rcases h with rfl | ⟨rfl, rfl⟩
    · have hlt : r < (List.replicate tl.length ((0 : Int), (none : Option Nat))).length := by simp; omega
      refine ⟨⟨8, [], [], []⟩, ?_, rfl⟩
      have hpl : (pl ((List.replicate tl.length ((0 : Int), (none : Option Nat))).set r (z, none)) (r : Int)).1 = z := by
        unfold pl
        rw [List.getD_eq_getElem?_getD, Int.toNat_natCast, List.getElem?_set, if_pos rfl, if_pos hlt]
        rfl
      unfold callG
      rw [if_neg (by decide), goN_s (s := cn (r : Int) z) rfl, gb_o (pay_yes (by decide))]
      have hrk : ∀ fs g d o, reckG fs g d (cn (r : Int) z) o = gp (z, none) := fun fs g d o => by
        unfold reckG
        simp [cn]
      rw [sg_r (by unfold Rk8; simp [cn]), hrk]
      rw [gb_o (x := gp (z, none)) rfl, show (cn (r : Int) z).dst.toNat = r from Int.toNat_natCast r]
      rw [goN_s (s := Mid.rt (r : Int)) rfl, gb_o (pay_yes (by decide)), sg_8 rfl]
      show Except.ok ((pl ((List.replicate tl.length ((0 : Int), (none : Option Nat))).set r (z, none)) (r : Int)).1, _) = _
      rw [hpl]
      rfl
    · refine ⟨⟨9, [], [], []⟩, ?_, rfl⟩
      have hlt : r < tl.length := by omega
      have hpl : (pl (List.replicate tl.length ((0 : Int), (none : Option Nat))) (r : Int)).1 = 0 := by
        unfold pl
        rw [List.getD_eq_getElem?_getD, Int.toNat_natCast, List.getElem?_replicate, if_pos hlt]
        rfl
      unfold callG
      rw [if_neg (by decide), goN_s (s := Mid.rt (r : Int)) rfl, gb_o (pay_yes (by decide)), sg_8 rfl]
      show Except.ok ((pl (List.replicate tl.length ((0 : Int), (none : Option Nat))) (r : Int)).1, _) = _
      rw [hpl]
      rfl
  obtain ⟨s, e1, e2⟩ := hrun
  show (match callG (fsL [⟨mainB, 0, tl, l⟩]) 11 0 ⟨mainB, 0, tl, l⟩ (List.replicate tl.length (0, none)) ⟨10, [], [], []⟩ with
      | .error (w, out) => (w, 0, out)
      | .ok (z, s) => (1, z, s.out)) = _
  rw [e1]
  show ((1 : Int), z, s.out) = _
  rw [e2]
theorem few_ps : ∀ {ps : List Int} {a nt : Int}, ps.Pairwise (· < ·) → (∀ p ∈ ps, a ≤ p ∧ p < nt) → a ≤ nt → (ps.length : Int) ≤ nt - a
  | [], a, nt, _, _, h => by simp; omega
  | p :: ps, a, nt, hs, hb, h => by
    rw [List.pairwise_cons] at hs
    have hp := hb p (by simp)
    have := few_ps (a := p + 1) (nt := nt) hs.2 (fun q hq => ⟨by have := hs.1 q hq; omega, (hb q (List.mem_cons_of_mem _ hq)).2⟩) (by omega)
    simp only [List.length_cons]
    omega
theorem KnL.le {nt : Nat} {z : Int} {l : List Ms} (h : KnL nt z l) : l.length ≤ nt + 1 := by
  obtain ⟨env, ps, r, rfl, hs, hb, _⟩ := h.ex
  have := few_ps (a := 0) hs hb (by omega)
  simp
  omega
theorem fl_fn {w : World} {B g o nt : Nat} {z : Int} {y : ByteArray} {tl : List Int} {l : List Ms} {tv sv : Value} (h : FlM w B (.agg #[.string y, .int .i64 0, tv, sv]) y tl l) (c0 : w.cell? ⟨g, o, none⟩ = some (.string y)) (c1 : w.cell? ⟨g, o + 1, none⟩ = some (.int .i64 0)) (c2 : w.cell? ⟨g, o + 2, none⟩ = some tv) (c3 : w.cell? ⟨g, o + 3, none⟩ = some sv) (hg : Good nt z l) (h1 : ∀ x ∈ tl, x = 1) (hl : tl.length ≤ 1000000) (hy : y.data.toList.length ≤ 1000) : FnAt w g o ⟨y.data.toList, 0, tl, l⟩ := by
  obtain ⟨tv', sv', e, o1, o2⟩ := h
  have e1 : tv' = tv := by
    injection e with e
    have := congrArg (fun a : Array Value => a[2]?) e
    simpa using this.symm
  have e2 : sv' = sv := by
    injection e with e
    have := congrArg (fun a : Array Value => a[3]?) e
    simpa using this.symm
  subst e1 e2
  have hle := hg.st.le
  have i0 : I64 (0 : Int) := ⟨by omega, by omega⟩
  refine ⟨c0, c1, ⟨tv', c2, ?_⟩, ?_, i0, ⟨by show y.data.toList.length ≤ _; omega, hl, by show l.length ≤ _; omega⟩⟩
  · obtain ⟨q, c, rfl⟩ := own_slice o1
    refine ⟨q, c, rfl, hl, fun x hx => by rw [h1 x hx]; exact ⟨by omega, by omega⟩, ?_⟩
    rcases own_row o1 with ⟨_, e2⟩ | ⟨g', cap, e1, e2, e3⟩
    · exact .inl (List.length_eq_zero_iff.1 e2)
    · injection e1 with e1
      refine .inr ⟨g', 0, e1, fun j x hx => ?_⟩
      rw [Nat.zero_add]
      refine e3 j _ ?_
      show (tl.map fun x => Value.int .i64 x)[j]? = _
      rw [List.getElem?_map, hx]
      rfl
  · obtain ⟨q, c, rfl⟩ := own_slice o2
    rcases own_row o2 with ⟨_, e2⟩ | ⟨g', cap, e1, e2, e3⟩
    · have := hg.st.pos; omega
    · injection e1 with e1 _ e1c
      subst e1c
      refine ⟨q, _, c3, e2, .inr ⟨g', 0, e1, fun j s hs => ?_⟩⟩
      have hc : ∀ i, i < 10 → w.cell? ⟨g', j * 10 + i, none⟩ = (sC s)[i]? := fun i hi => by
        have hlen : (sC s).length = 10 := rfl
        have hsi : (sC s)[i]? = some ((sC s)[i]'(by omega)) := List.getElem?_eq_getElem _
        rw [hsi]
        exact e3 _ _ ((rowC_get l j s hs i hi).trans hsi)
      obtain ⟨p1, p2, p3, p4, p5, p6, p7, p8, p9, p10⟩ := hg.opl s (List.mem_of_getElem? hs)
      have h0 := hc 0 (by omega)
      rw [Nat.add_zero] at h0
      rw [Nat.zero_add]
      exact ⟨h0, hc 1 (by omega), hc 2 (by omega), hc 3 (by omega), hc 4 (by omega), hc 5 (by omega), hc 6 (by omega), hc 7 (by omega), hc 8 (by omega), ⟨.slice none 0 0, hc 9 (by omega), by rw [p3]; exact ⟨none, 0, rfl, by simp, fun x hx => by simp at hx, .inl rfl⟩⟩, ⟨p4, p5, p6, p7, p8, p9, p10⟩, ⟨p1, by rw [p2]; simp⟩⟩
def Ev (vals : List Int) (i : Nat) (s : Ms) (x : Int) : Prop :=
  (s.code = 1 ∧ x = s.n) ∨ (s.code = 2 ∧ 0 ≤ s.a ∧ s.a < i ∧ x = vals.getD s.a.toNat 0) ∨ (s.code = 3 ∧ 0 ≤ s.a ∧ s.a < i ∧ 0 ≤ s.b ∧ s.b < i ∧ markB s.op = true ∧ bothV s.op (vals.getD s.a.toNat 0) (vals.getD s.b.toNat 0) = (x, 0))
structure LG (l : List Ms) (vals : List Int) : Prop where
  len : l.length = vals.length
  i64 : ∀ x ∈ vals, I64 x
  st : ∀ (i : Nat) (s : Ms), l[i]? = some s → s.dst = (i : Int) ∧ s.label = 0 ∧ s.name = [] ∧ s.args = [] ∧ s.op.length ≤ 1000 ∧ I64 s.n ∧ I64 s.a ∧ I64 s.b ∧ I64 s.c ∧ Ev vals i s (vals.getD i 0)
theorem LG.nil : LG [] [] := ⟨rfl, fun x h => by simp at h, fun i s h => by simp at h⟩
theorem getD_app {vals : List Int} {v : Int} {j : Nat} (h : j < vals.length) : (vals ++ [v]).getD j 0 = vals.getD j 0 := by
  rw [List.getD_eq_getElem?_getD, List.getD_eq_getElem?_getD, List.getElem?_append_left h]
theorem getD_last {vals : List Int} {v : Int} : (vals ++ [v]).getD vals.length 0 = v := by
  rw [List.getD_eq_getElem?_getD, List.getElem?_append_right (Nat.le_refl _)]
  simp
theorem Ev.app {vals : List Int} {v : Int} {i : Nat} {s : Ms} {x : Int} (h : Ev vals i s x) (hi : i ≤ vals.length) : Ev (vals ++ [v]) i s x := by
  rcases h with h | ⟨h1, h2, h3, h4⟩ | ⟨h1, h2, h3, h4, h5, h6, h7⟩
  · exact .inl h
  · exact .inr (.inl ⟨h1, h2, h3, by rw [getD_app (by omega)]; exact h4⟩)
  · exact .inr (.inr ⟨h1, h2, h3, h4, h5, h6, by rw [getD_app (by omega), getD_app (by omega)]; exact h7⟩)
theorem LG.put {l : List Ms} {vals : List Int} {s : Ms} {v : Int} (h : LG l vals) (hs : s.label = 0 ∧ s.name = [] ∧ s.args = [] ∧ s.op.length ≤ 1000 ∧ I64 s.n ∧ I64 s.a ∧ I64 s.b ∧ I64 s.c) (hv : I64 v) (he : Ev vals vals.length s v) : LG (l ++ [{ s with dst := (l.length : Int) }]) (vals ++ [v]) := by
  refine ⟨by simp [h.len], fun x hx => ?_, fun i t ht => ?_⟩
  · rcases List.mem_append.1 hx with hx | hx
    · exact h.i64 x hx
    · simp at hx
      rw [hx]
      exact hv
  · by_cases hi : i < l.length
    · rw [List.getElem?_append_left hi] at ht
      obtain ⟨a1, a2, a3, a4, a5, a6, a7, a8, a9, a10⟩ := h.st i t ht
      have hlen := h.len
      exact ⟨a1, a2, a3, a4, a5, a6, a7, a8, a9, by rw [getD_app (by omega)]; exact a10.app (by omega)⟩
    · rw [List.getElem?_append_right (by omega)] at ht
      have hi0 : i - l.length = 0 := by
        have := (List.getElem?_eq_some_iff.1 ht).1
        simp at this
        omega
      rw [hi0] at ht
      simp at ht
      subst ht
      have hil : i = vals.length := by have := h.len; omega
      refine ⟨by show (l.length : Int) = (i : Int); omega, hs.1, hs.2.1, hs.2.2.1, hs.2.2.2.1, hs.2.2.2.2.1, hs.2.2.2.2.2.1, hs.2.2.2.2.2.2.1, hs.2.2.2.2.2.2.2, ?_⟩
      rw [hil, getD_last]
      have he2 : Ev (vals ++ [v]) vals.length s v := he.app (Nat.le_refl _)
      exact he2
theorem env_i64 {l : List Ms} (h : ∀ s ∈ l, I64 s.n) : ∀ i p, I64 (envA l i p)
  | 0, p => (⟨by decide, by decide⟩ : I64 (0 : Int))
  | i + 1, p => by
    rw [envA]
    cases e : l[i]? with
    | none => exact env_i64 h i p
    | some s =>
      show I64 (up (envA l i) s.dst (evS (envA l i) s) p)
      unfold up
      split
      · unfold evS
        split
        · exact h s (List.mem_of_getElem? e)
        · split
          · exact env_i64 h i _
          · exact i64_both (env_i64 h i _)
      · exact env_i64 h i p
theorem LG.env {l : List Ms} {vals : List Int} (h : LG l vals) (r : Ms) : ∀ i, i ≤ l.length → ∀ p, envA (l ++ [r]) i p = if 0 ≤ p ∧ p < (i : Int) then vals.getD p.toNat 0 else 0
  | 0, _, p => by
    rw [if_neg (by omega)]
    rfl
  | i + 1, hi, p => by
    have hs : (l ++ [r])[i]? = some (l[i]'(by omega)) := by rw [List.getElem?_append_left (by omega), List.getElem?_eq_getElem]
    obtain ⟨a1, _, _, _, _, _, _, _, _, a10⟩ := h.st i _ (List.getElem?_eq_getElem (by omega : i < l.length))
    have ih := h.env r i (by omega)
    rw [envA, hs]
    show up (envA (l ++ [r]) i) (l[i]'(by omega)).dst (evS (envA (l ++ [r]) i) (l[i]'(by omega))) p = _
    have hev : evS (envA (l ++ [r]) i) (l[i]'(by omega)) = vals.getD i 0 := by
      unfold evS
      rcases a10 with ⟨c1, c2⟩ | ⟨c1, c2, c3, c4⟩ | ⟨c1, c2, c3, c4, c5, c6, c7⟩
      · rw [if_pos c1, ← c2]
      · rw [if_neg (by omega), if_pos c1, ih, if_pos ⟨c2, c3⟩, ← c4]
      · rw [if_neg (by omega), if_neg (by omega), ih, ih, if_pos ⟨c2, c3⟩, if_pos ⟨c4, c5⟩, c7]
    rw [hev, a1]
    unfold up
    by_cases hp : p = (i : Int)
    · rw [if_pos hp, if_pos (by omega), hp, Int.toNat_natCast]
    · rw [if_neg hp, ih]
      by_cases hp2 : 0 ≤ p ∧ p < (i : Int)
      · rw [if_pos hp2, if_pos (by omega)]
      · rw [if_neg hp2, if_neg (by omega)]
theorem LG.good {l : List Ms} {vals : List Int} (h : LG l vals) (hp : 0 < l.length) (hle : l.length ≤ 900) : Good l.length (vals.getD (l.length - 1) 0) (l ++ [rt ((l.length - 1 : Nat) : Int)]) ∧ (∀ s ∈ l ++ [rt ((l.length - 1 : Nat) : Int)], s.code = 8 → s = rt s.a) ∧ ∀ s ∈ l ++ [rt ((l.length - 1 : Nat) : Int)], s.code = 3 → markB s.op = true := by
  obtain ⟨r, hr⟩ : ∃ r, r = rt ((l.length - 1 : Nat) : Int) := ⟨_, rfl⟩
  rw [← hr]
  have hat : ∀ (i : Nat) (s : Ms), (l ++ [r])[i]? = some s → (i < l.length ∧ l[i]? = some s) ∨ (i = l.length ∧ s = r) := fun i s hs => by
    by_cases hi : i < l.length
    · rw [List.getElem?_append_left hi] at hs
      exact .inl ⟨hi, hs⟩
    · rw [List.getElem?_append_right (by omega)] at hs
      have hi0 : i - l.length = 0 := by
        have := (List.getElem?_eq_some_iff.1 hs).1
        simp at this
        omega
      rw [hi0] at hs
      simp at hs
      exact .inr ⟨by omega, hs.symm⟩
  have hmem : ∀ s ∈ l ++ [r], (∃ i, i < l.length ∧ l[i]? = some s) ∨ s = r := fun s hs => by
    obtain ⟨i, hi⟩ := List.getElem?_of_mem hs
    rcases hat i s hi with ⟨a, b⟩ | ⟨_, b⟩
    · exact .inl ⟨i, a, b⟩
    · exact .inr b
  have hcode : ∀ (i : Nat) (s : Ms), l[i]? = some s → (s.code = 1 ∨ s.code = 2 ∨ s.code = 3) := fun i s hs => by
    obtain ⟨_, _, _, _, _, _, _, _, _, e⟩ := h.st i s hs
    rcases e with ⟨c, _⟩ | ⟨c, _⟩ | ⟨c, _⟩
    · exact .inl c
    · exact .inr (.inl c)
    · exact .inr (.inr c)
  have hr8 : r.code = 8 := by rw [hr]; rfl
  have hra : r.a = ((l.length - 1 : Nat) : Int) := by rw [hr]; rfl
  have hlen : (l ++ [r]).length - 1 = l.length := by simp
  have i0 : I64 (0 : Int) := ⟨by decide, by decide⟩
  have i8 : I64 (8 : Int) := ⟨by decide, by decide⟩
  refine ⟨⟨⟨by simp, by simp; omega, fun s hs => ?_, fun s hs => ?_, fun j s hs hc => ?_, fun s hs => ?_⟩, fun i s hs hc => ?_, fun s hs hc => ?_, fun s hs hc => ?_, fun i s hs hc => ?_, fun i p => env_i64 (fun s hs => ?_) i p, fun i s hs hc => ?_, fun s hs => ?_, fun s hs => ?_⟩, fun s hs hc => ?_, fun s hs hc => ?_⟩
  · rcases hmem s hs with ⟨i, hi, h1⟩ | rfl
    · obtain ⟨a1, _, _, _, _, _, _, _, _, e⟩ := h.st i s h1
      refine ⟨by rcases hcode i s h1 with c | c | c <;> omega, fun _ => by omega, fun hc => ?_, fun hc => ?_⟩
      · rcases e with ⟨c, _⟩ | ⟨c, c2, c3, _⟩ | ⟨c, c2, c3, _⟩ <;> omega
      · rcases e with ⟨c, _⟩ | ⟨c, c2, c3, _⟩ | ⟨c, c2, c3, c4, c5, _⟩ <;> omega
    · exact ⟨by omega, fun e => absurd hr8 e, fun _ => by omega, fun e => by omega⟩
  · rw [hlen] at hs
    rcases hat _ s hs with ⟨a, _⟩ | ⟨_, rfl⟩
    · omega
    · exact hr8
  · rcases hat j s hs with ⟨a, b⟩ | ⟨a, _⟩
    · rcases hcode j s b with c | c | c <;> omega
    · simp; omega
  · rcases hmem s hs with ⟨i, hi, h1⟩ | rfl
    · exact (h.st i s h1).2.1
    · rw [hr]; rfl
  · rcases hat i s hs with ⟨a, b⟩ | ⟨_, rfl⟩
    · rw [(h.st i s b).1]
      cases i with
      | zero => show (0 : Int) ≤ _; omega
      | succ j =>
        have hj : (l ++ [r])[j]? = some (l[j]'(by omega)) := by rw [List.getElem?_append_left (by omega), List.getElem?_eq_getElem]
        rw [dA, hj]
        show (l[j]'(by omega)).dst + 1 ≤ _
        rw [(h.st j _ (List.getElem?_eq_getElem (by omega))).1]
        omega
    · exact absurd hr8 hc
  · rcases hmem s hs with ⟨i, hi, h1⟩ | rfl
    · obtain ⟨a1, _, _, _, _, _, _, _, _, e⟩ := h.st i s h1
      rcases e with ⟨c, _⟩ | ⟨c, c2, c3, _⟩ | ⟨c, c2, c3, _⟩ <;> omega
    · omega
  · rcases hmem s hs with ⟨i, hi, h1⟩ | rfl
    · obtain ⟨a1, _, _, _, _, _, _, _, _, e⟩ := h.st i s h1
      rcases e with ⟨c, _⟩ | ⟨c, c2, c3, _⟩ | ⟨c, c2, c3, c4, c5, _⟩ <;> omega
    · omega
  · rcases hat i s hs with ⟨a, b⟩ | ⟨_, rfl⟩
    · obtain ⟨a1, _, _, _, _, _, _, _, _, e⟩ := h.st i s b
      rcases e with ⟨c, _⟩ | ⟨c, c2, c3, _⟩ | ⟨c, c2, c3, c4, c5, _, c7⟩
      · omega
      · omega
      · rw [h.env r i (by omega), h.env r i (by omega), if_pos ⟨c2, c3⟩, if_pos ⟨c4, c5⟩, c7]
    · omega
  · rcases hmem s hs with ⟨i, hi, h1⟩ | rfl
    · exact (h.st i s h1).2.2.2.2.2.1
    · rw [hr]; exact i0
  · have hI := env_i64 (l := l ++ [r]) (fun s hs => by
      rcases hmem s hs with ⟨i, hi, h1⟩ | rfl
      · exact (h.st i s h1).2.2.2.2.2.1
      · rw [hr]; exact i0) i
    rcases hat i s hs with ⟨a, b⟩ | ⟨_, rfl⟩
    · unfold evS
      split
      · exact (h.st i s b).2.2.2.2.2.1
      · split
        · exact hI _
        · exact i64_both (hI _)
    · exact absurd hr8 hc
  · rcases hmem s hs with ⟨i, hi, h1⟩ | rfl
    · obtain ⟨a1, a2, a3, a4, a5, a6, a7, a8, a9, _⟩ := h.st i s h1
      refine ⟨by omega, a3, a4, ?_, ?_, a7, a8, a9, a6, by rw [a2]; exact i0⟩
      · rcases hcode i s h1 with c | c | c <;> (rw [c]; exact ⟨by decide, by decide⟩)
      · rw [a1]; exact ⟨by omega, by omega⟩
    · rw [hr]
      exact ⟨by simp [Mid.rt], rfl, rfl, i8, i0, ⟨by show (-9223372036854775808 : Int) ≤ ((l.length - 1 : Nat) : Int); omega, by show ((l.length - 1 : Nat) : Int) ≤ 9223372036854775807; omega⟩, i0, i0, i0, i0⟩
  · rw [hlen] at hs ⊢
    rcases hat _ s hs with ⟨a, _⟩ | ⟨_, rfl⟩
    · omega
    · rw [h.env s l.length (Nat.le_refl _), hra, if_pos (by omega), Int.toNat_natCast]
  · rcases hmem s hs with ⟨i, hi, h1⟩ | rfl
    · rcases hcode i s h1 with c | c | c <;> omega
    · rw [hr]; rfl
  · rcases hmem s hs with ⟨i, hi, h1⟩ | rfl
    · obtain ⟨a1, _, _, _, _, _, _, _, _, e⟩ := h.st i s h1
      rcases e with ⟨c, _⟩ | ⟨c, _⟩ | ⟨c, c2, c3, c4, c5, c6, _⟩
      · omega
      · omega
      · exact c6
    · omega
end Go.Proofs.YtjmbjpimabnohaaDoor.Mid
