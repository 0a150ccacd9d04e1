/- The document's run of steps: input, print, item, walked. -/
import Derived.Test.YtjmbjpimabnohaaDoorUA
namespace Go.Proofs.YtjmbjpimabnohaaDoor.Mid
set_option linter.unusedVariables false
set_option linter.unusedSimpArgs false
open Go Go.RowKit

def Rr.take1 (r : Rr) (iv : Value) : Rr := { r with iv := iv, s := { r.s with inp := r.s.inp.tail } }
/-- What asking for a number leaves. -/
def InP (X : Qx) (w : World) (r : Rr) (d : Nat) (e : Ending) (w' : World) : Prop :=
  ∃ iv, e = .returned (.int .i64 (r.s.inp.headD 0)) ∧ Wm X.w0 X.P w' (r.take1 iv) d 0 ∧ Wz X.P NoE w r w' (r.take1 iv)
theorem in_fin {X : Qx} {w : World} {r : Rr} {d : Nat} {x : Int} {xs : List Int} {iv : Value} (h : Wm X.w0 X.P w r d 0) (hn : r.s.inp = x :: xs) (hi : InW X.w0 iv xs) : InP X w r d (.returned (.int .i64 x)) (w.setCell ⟨X.P, 1, none⟩ iv) := by
  obtain ⟨a1, a2⟩ := h.setP (i := 1) (v := iv) (r.take1 iv) d 0 rfl rfl rfl rfl rfl rfl (by show InW _ _ r.s.inp.tail; rw [hn]; exact hi) h.few h.deep
  exact ⟨iv, by rw [hn]; rfl, a1, a2⟩
set_option maxRecDepth 100000 in
set_option maxHeartbeats 1000000 in
theorem input_any (X : Qx) (w : World) (r : Rr) (d : Nat) (h : Wm X.w0 X.P w r d 0) : Calls Tryd.prog 63 #[ptr X.P] w (InP X w r d) := by
  obtain ⟨q, c, hiv, hq⟩ := h.inp
  have c1 := cell_at (i := 1) h.pb rfl
  have f1 := row_free h.pb 1
  have HH : Hid (Wm X.w0 X.P w r d 0) := h
  have HI : Hid (r.iv = .slice q r.s.inp.length c) := hiv
  cases hi : r.s.inp with
  | nil =>
    have HN : Hid (r.s.inp = []) := hi
    have c1' : w.cell? ⟨X.P, 1, none⟩ = some (.slice q 0 c) := by rw [c1]; show some r.iv = _; rw [hiv, hi]; rfl
    clear h c1 hq hiv hi
    go_enter Tryd.func63, Tryd.ntmps63
    go_wp2
    go_ret
    have e : r.take1 r.iv = r := by
      have hn := HN.out
      unfold Rr.take1
      rw [hn]
      cases r with
      | mk ab av iv ov s =>
        cases s with
        | mk fu inp out hp =>
          have hn' : inp = [] := hn
          subst hn'
          rfl
    refine ⟨r.iv, by rw [HN.out]; rfl, ?_, ?_⟩
    · rw [e]; exact HH.out
    · rw [e]; exact Wz.refl _ _ _ _
  | cons x xs =>
    rw [hi] at hq hiv
    rcases hq with hq | ⟨g, o, rfl, hg, hc, hcell⟩
    · cases hq
    have hx0 : w.cell? ⟨g, o, none⟩ = some (.int .i64 x) := by
      have := hcell 0 x rfl
      rw [Nat.add_zero] at this
      rw [← this]
      exact World.cell?_of_block (a := ⟨g, o, none⟩) (h.kp g hg)
    obtain ⟨cc, rfl⟩ : ∃ cc, c = cc + 1 := ⟨c - 1, by simp at hc; omega⟩
    have c1' : w.cell? ⟨X.P, 1, none⟩ = some (.slice (some ⟨g, o, none⟩) (xs.length + 1) (cc + 1)) := by rw [c1]; show some r.iv = _; rw [hiv]; rfl
    have HN : Hid (r.s.inp = x :: xs) := hi
    have HC : Hid (∀ j y, (x :: xs)[j]? = some y → X.w0.cell? ⟨g, o + j, none⟩ = some (.int .i64 y)) := hcell
    have HG : Hid (g < X.w0.heap.size ∧ xs.length ≤ cc) := ⟨hg, by simp at hc; omega⟩
    obtain ⟨m, hm⟩ : ∃ m, m = xs.length := ⟨_, rfl⟩
    rw [← hm] at c1'
    have HM : Hid (m = xs.length) := hm
    have hmc : m ≤ cc := by rw [hm]; exact HG.out.2
    clear h c1 hiv hi hcell hc hg hm
    go_enter Tryd.func63, Tryd.ntmps63
    go_wp2
    · go_ret
      have hm := HM.out
      refine in_fin HH.out HN.out ⟨_, _, by rw [hm], .inl ?_⟩
      have : xs.length = 0 := by omega
      exact List.length_eq_zero_iff.1 this
    · go_ret
      have hm := HM.out
      refine in_fin HH.out HN.out ⟨_, _, by rw [hm], .inr ⟨g, o + 1, rfl, HG.out.1, HG.out.2, fun j y hy => ?_⟩⟩
      have := HC.out (j + 1) y hy
      rw [show o + 1 + j = o + (j + 1) by omega]
      exact this
def Rr.tell1 (r : Rr) (ov : Value) (n : Int) : Rr := { r with ov := ov, s := { r.s with out := r.s.out ++ [n] } }
/-- What telling a number leaves. -/
def PrP (X : Qx) (w : World) (r : Rr) (d : Nat) (n : Int) (e : Ending) (w' : World) : Prop :=
  e = .returned (.tuple #[]) ∧ ((200 ≤ r.s.out.length ∧ Wm X.w0 X.P w' r d 7 ∧ Wz X.P NoE w r w' r) ∨ (r.s.out.length < 200 ∧ ∃ ov, Wm X.w0 X.P w' (r.tell1 ov n) d 0 ∧ Wz X.P NoE w r w' (r.tell1 ov n)))
theorem pr_fin {X : Qx} {w w1 : World} {r : Rr} {d : Nat} {n : Int} {g cap m : Nat} (h : Wm X.w0 X.P w r d 0) (hm : m = r.s.out.length) (h2 : m < 200) (A : Obj) (hown : w1.ownsRow X.w0.heap.size 2 1 (.slice (some ⟨g, 0, none⟩) (m + 1) cap) (m + 1) (ints r.s.out ++ [.int .i64 n])) (hgr : (w.alloc A).grownBy w1 r.ov.ownBlock) (hg : r.ov.ownBlock = some g ∨ g = w.heap.size + 1) :
    PrP X w r d n (.returned (.tuple #[])) (w1.setCell ⟨X.P, 6, none⟩ (.slice (some ⟨g, 0, none⟩) (m + 1) cap)) := by
  have hsz1 : w.heap.size + 1 ≤ w1.heap.size := by have := hgr.size; simpa using this
  have hov : ∀ i, r.ov.ownBlock = some i → X.w0.heap.size ≤ i ∧ i < w.heap.size := fun i hi => h.out.lt i hi
  have hk : ∀ b, b < w.heap.size → r.ov.ownBlock ≠ some b → w1.heap[b]? = w.heap[b]? := fun b hb hne => by
    rw [hgr.block b (by simp; omega) (fun e => hne e.symm), row_eq_alloc hb]
  have hPo : r.ov.ownBlock ≠ some X.P := fun e => by
    obtain ⟨cs, hc⟩ := own_ty h.out e
    exact h.neP hc (by decide) rfl
  have hPg : X.P ≠ g := by
    have := h.ltP
    rcases hg with hg | rfl
    · intro e; exact hPo (by rw [e]; exact hg)
    · omega
  have hP1 : w1.heap[X.P]? = some (.cells (wdC r d 0) 87) := by
    rw [hk X.P h.ltP hPo]
    exact h.pb
  have hoth : ∀ b, b ≠ X.P → (w1.setCell ⟨X.P, 6, none⟩ (.slice (some ⟨g, 0, none⟩) (m + 1) cap)).heap[b]? = w1.heap[b]? := fun b hb => heap_setCell_other _ _ _ _ hb
  have hsz : (w1.setCell ⟨X.P, 6, none⟩ (.slice (some ⟨g, 0, none⟩) (m + 1) cap)).heap.size = w1.heap.size := by simp
  have hao : ∀ i, r.av.ownBlock = some i → r.ov.ownBlock ≠ some i := fun i hi e => by
    obtain ⟨cs, hc⟩ := own_ty h.arrs hi
    obtain ⟨ds, hd⟩ := own_ty h.out e
    exact absurd (ty_ne hc hd) (by decide)
  refine ⟨rfl, .inr ⟨by omega, .slice (some ⟨g, 0, none⟩) (m + 1) cap, ?_, ?_⟩⟩
  · refine ⟨h.lo0, by rw [hsz]; have := h.le; omega, fun b h1 => ?_, ?_, h.inp, ?_, ?_, ?_, h.alen, ?_, h.lo, h.nd, h.few, ?_, h.deep⟩
    · rw [hoth b (by have := h.lo0; omega), hk b (Nat.lt_of_lt_of_le h1 h.le) (fun e => by have := (hov _ e).1; omega)]
      exact h.kp b h1
    · exact heap_setCell_same _ _ _ _ _ _ hP1
    · have e1 : (r.tell1 (.slice (some ⟨g, 0, none⟩) (m + 1) cap) n).s.out = r.s.out ++ [n] := rfl
      have e2 : (r.s.out ++ [n]).length = m + 1 := by rw [hm]; simp
      rw [e1, e2, show ints (r.s.out ++ [n]) = ints r.s.out ++ [.int .i64 n] by simp [ints]]
      exact own_at hown (fun i hi => hoth i (fun e => hPg (by rw [← e]; injection hi with hi; exact hi.symm)))
    · refine own_at h.arrs (fun i hi => ?_)
      obtain ⟨cs, hc⟩ := own_ty h.arrs hi
      rw [hoth i (h.neP hc (by decide)), hk i (own_lt h.arrs i hi) (hao i hi)]
    · intro i hi
      have e : i = g := by injection hi with hi; exact hi.symm
      subst e
      rcases hg with hg | rfl
      · exact h.apart i hg
      · intro hmem
        obtain ⟨p, hp, e⟩ := List.mem_map.1 hmem
        obtain ⟨j, hj⟩ := List.getElem?_of_mem hp
        obtain ⟨l, _, _, _, a4⟩ := h.arr j p.1 p.2 hj
        have := (Array.getElem?_eq_some_iff.1 a4).1
        omega
    · intro i b k hi
      obtain ⟨l, a1, a2, a3, a4⟩ := h.arr i b k hi
      refine ⟨l, a1, a2, a3, ?_⟩
      have hmem : b ∈ r.ab.map (·.1) := List.mem_map.2 ⟨(b, k), List.mem_of_getElem? hi, rfl⟩
      rw [hoth b (h.neP a4 (by decide)), hk b (Array.getElem?_eq_some_iff.1 a4).1 (fun e => h.apart b e hmem)]
      exact a4
    · show (r.s.out ++ [n]).length ≤ 200
      simp
      omega
  · refine ⟨hgr.os, hgr.tape, hgr.output, by rw [hsz]; omega, fun b hb hx _ => ?_, List.prefix_rfl, fun b hx hnx => ?_⟩
    · rw [hoth b (fun e => hx (.inl e)), hk b hb (fun e => hx (.inr (.inr (.inl e))))]
    · rcases hx with hx | hx | hx | hx
      · exact absurd (.inl hx) hnx
      · exact absurd (.inr (.inl hx)) hnx
      · have e : b = g := by injection hx with hx; exact hx.symm
        subst e
        rcases hg with hg | rfl
        · exact absurd (.inr (.inr (.inl hg))) hnx
        · omega
      · exact absurd (.inr (.inr (.inr hx))) hnx
set_option maxRecDepth 100000 in
set_option maxHeartbeats 1000000 in
theorem print_any (X : Qx) (w : World) (r : Rr) (d : Nat) (n : Int) (h : Wm X.w0 X.P w r d 0) : Calls Tryd.prog 62 #[ptr X.P, .int .i64 n] w (PrP X w r d n) := by
  obtain ⟨q, c, hov⟩ := own_slice h.out
  have c6 : w.cell? ⟨X.P, 6, none⟩ = some r.ov := cell_at (i := 6) h.pb rfl
  have f6 := row_free h.pb 6
  rw [hov] at c6
  have HH : Hid (Wm X.w0 X.P w r d 0) := h
  have HEn : Hid (Calls Tryd.prog 59 #[ptr X.P, .int .i64 7] w (EnP X w r d 7)) := ends_any X w r d 0 7 h
  obtain ⟨m, hm⟩ : ∃ m, m = r.s.out.length := ⟨_, rfl⟩
  have HM : Hid (m = r.s.out.length) := hm
  have HV : Hid (r.ov = .slice q m c) := by rw [hm]; exact hov
  rw [← hm] at c6
  have hm2 : m ≤ 200 := by rw [hm]; exact h.told
  have HO : Hid (w.ownsRow X.w0.heap.size 2 1 (.slice q m c) m (ints r.s.out)) := by have := h.out; rw [hov, ← hm] at this; exact this
  have hP := h.ltP
  generalize hG : PrP X w r d n = G
  have HG : Hid (PrP X w r d n = G) := hG
  clear h hov hm hG
  by_cases h2 : 200 ≤ m
  · go_enter Tryd.func62, Tryd.ntmps62
    go_wp2_with (go_at_call 59; fail)
    refine HEn.out.mono ?_
    rintro e w1 ⟨rfl, h1, h3⟩
    have HX : Hid (G (.returned (.tuple #[])) w1) := by show G _ _; rw [← HG.out]; exact ⟨rfl, .inl ⟨by have := HM.out; omega, h1, h3⟩⟩
    clear h1 h3
    go_wp2
    go_end0
    exact HX.out
  · obtain ⟨i0, hi0, hz0, hs0, hb0⟩ := info_parts info2
    have HO3 : Hid ((w.alloc (.cells #[.int .i64 n] 2)).ownsRow X.w0.heap.size 2 1 (.slice q m c) m (ints r.s.out)) := HO.out.alloc _
    have HN3 : Hid (∀ (i : Nat) (x : Value), ([.int .i64 n] : List Value)[i]? = some x → (w.alloc (.cells #[.int .i64 n] 2)).cell? ((⟨w.heap.size, 0, none⟩ : Addr).add i) = some x) := World.news_of_block (cs := #[.int .i64 n]) (t := 2) (fr := (0, 0)) (heap_alloc_last w _)
    have H13 : Hid (∀ u ∈ ([.int .i64 n] : List Value), u.oneCell' = true) := fun u hu => by simp at hu; subst hu; rfl
    have HZ3 : Hid (X.w0.heap.size ≤ (w.alloc (.cells #[.int .i64 n] 2)).heap.size) := by have := HH.out.le; show _ ≤ _; simp; omega
    go_enter Tryd.func62, Tryd.ntmps62
    go_wp2_with (at_builtin; refine wpList_append_lies _ rfl _ _ 23 rfl X.w0.heap.size 2 i0 _ 1 8 Tryd.underlying23 hi0 hz0 hs0 hb0 rfl (by decide) _ m _ rfl HO3.out ⟨w.heap.size, 0, none⟩ 1 1 [.int .i64 n] rfl rfl HN3.out H13.out (by decide) (by unfold maxLen; omega) (by omega) HZ3.out (w.heap.size + 1) (by simp) ?_)
    intro g5 cap5 w5 hown5 hgrow5 hg5 hlt5
    have hP5 : w5.heap[X.P]? = some (.cells (wdC r d 0) 87) := by
      rw [hgrow5.block X.P (by simp; omega) (fun e => ?_), row_eq_alloc hP]
      · exact HH.out.pb
      · obtain ⟨cs, hc⟩ := own_ty HO.out e.symm
        exact HH.out.neP hc (by decide) rfl
    have c5 : w5.cell? ⟨X.P, 6, none⟩ = some r.ov := cell_at (i := 6) hP5 rfl
    have f5 := row_free hP5 6
    have HFin : Hid (G (.returned (.tuple #[])) (w5.setCell ⟨X.P, 6, none⟩ (.slice (some ⟨g5, 0, none⟩) (m + 1) cap5))) := by show G _ _; rw [← HG.out]; exact pr_fin HH.out HM.out (by omega) _ hown5 (by rw [HV.out]; exact hgrow5) (by rw [HV.out]; exact hg5)
    clear hown5 hgrow5 hg5 hlt5 hP5
    go_wp2
    go_end0
    exact HFin.out
end Go.Proofs.YtjmbjpimabnohaaDoor.Mid
