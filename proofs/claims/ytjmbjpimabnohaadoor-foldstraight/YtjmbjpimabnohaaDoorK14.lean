/- FA FB FC -/
import Derived.Test.YtjmbjpimabnohaaDoorK12
namespace Go.Proofs.YtjmbjpimabnohaaDoor.Mid
set_option linter.unusedVariables false
set_option linter.unusedSimpArgs false
open Go Go.RowKit
def sC (s : Ms) : List Value := [.int .i64 s.code, .int .i64 s.dst, .int .i64 s.a, .int .i64 s.b, .int .i64 s.c, .int .i64 s.n, .string ⟨s.op.toArray⟩, .int .i64 s.label, .string ⟨s.name.toArray⟩, .slice none 0 0]
def rowC (l : List Ms) : List Value := l.flatMap sC
theorem rowC_len : ∀ l : List Ms, (rowC l).length = l.length * 10
  | [] => rfl
  | s :: l => by
    have := rowC_len l
    simp only [rowC, List.flatMap_cons, List.length_append, List.length_cons] at this ⊢
    rw [this]
    simp [sC]
    omega
theorem rowC_get : ∀ (l : List Ms) (j : Nat) (s : Ms), l[j]? = some s → ∀ i, i < 10 → (rowC l)[j * 10 + i]? = (sC s)[i]?
  | [], j, s, h, i, hi => by simp at h
  | t :: l, 0, s, h, i, hi => by
    simp at h
    subst h
    rw [Nat.zero_mul, Nat.zero_add]
    show (sC t ++ rowC l)[i]? = _
    rw [List.getElem?_append_left (by simpa [sC] using hi)]
  | t :: l, j + 1, s, h, i, hi => by
    simp at h
    show (sC t ++ rowC l)[(j + 1) * 10 + i]? = _
    rw [List.getElem?_append_right (by simp [sC]; omega), show (j + 1) * 10 + i - (sC t).length = j * 10 + i by simp [sC]; omega]
    exact rowC_get l j s h i hi
theorem rowC_one (l : List Ms) : ∀ u ∈ rowC l, u.oneCell' = true := fun u hu => by
  unfold rowC at hu
  obtain ⟨s, _, hs⟩ := List.mem_flatMap.1 hu
  unfold sC at hs
  simp only [List.mem_cons, List.not_mem_nil, or_false] at hs
  rcases hs with rfl | rfl | rfl | rfl | rfl | rfl | rfl | rfl | rfl | rfl <;> rfl
theorem info44 : (Tryd.prog.info? 44).map (fun i => (i.zero, i.size, i.bytes)) = some (some (.agg #[.int .i64 0, .int .i64 0, .int .i64 0, .int .i64 0, .int .i64 0, .int .i64 0, .string ⟨#[]⟩, .int .i64 0, .string ⟨#[]⟩, .slice none 0 0]), 10, 112) := by kernel_rfl
theorem info3 : (Tryd.prog.info? 3).map (fun i => (i.zero, i.size, i.bytes)) = some (some (.int .i64 0), 1, 8) := by kernel_rfl
theorem und33 : Tryd.prog.underlying 33 = some (.slice 44) := Tryd.underlying33
theorem und32 : Tryd.prog.underlying 32 = some (.slice 3) := Tryd.underlying32
def FlM (w : World) (B : Nat) (v : Value) (y : ByteArray) (tl : List Int) (l : List Ms) : Prop :=
  ∃ tv sv, v = .agg #[.string y, .int .i64 0, tv, sv] ∧ w.ownsRow B 3 1 tv tl.length (ints tl) ∧ w.ownsRow B 44 10 sv l.length (rowC l)
theorem app_row (e t size bytes : Nat) (z : Value) (hinf : (Tryd.prog.info? e).map (fun i => (i.zero, i.size, i.bytes)) = some (some z, size, bytes)) (hzs : z.cells.size = size) (hsz : 0 < size) (hb64 : bytes ≤ 1000) (ht : Tryd.prog.underlying t = some (.slice e)) (w : World) (g0 n c : Nat) (zs : List Value) (hl : zs.length = n * size) (hn : n ≤ 1000000) (h1 : ∀ u ∈ zs, u.oneCell' = true) (hc : ∀ j u, zs[j]? = some u → w.cell? ⟨g0, j, none⟩ = some u) (hg : 0 < n → g0 < w.heap.size) :
    ∃ p c' W', (Builtin.append_ #[t, t] t #[.slice (some ⟨w.heap.size, 0, none⟩) 0 0, .slice (some ⟨g0, 0, none⟩) n c]).run Tryd.prog (w.alloc (.cells #[] e)) = .ok (.slice p n c') W' ∧ W'.ownsRow w.heap.size e size (.slice p n c') n zs ∧ Below w.heap.size w W' := by
  obtain ⟨i, hi2, hz0, hz1, hz2⟩ := info_parts hinf
  have hb : Below w.heap.size w (w.alloc (.cells #[] e)) := al_bel _ _
  have hown : (w.alloc (.cells #[] e)).ownsRow w.heap.size e size (.slice (some ⟨w.heap.size, 0, none⟩) 0 0) 0 [] := ⟨by simp, .inr ⟨w.heap.size, 0, #[], rfl, Nat.le_refl _, heap_alloc_last _ _, Nat.le_refl _, by unfold maxLen; omega, by simp, by simp⟩⟩
  rcases Nat.eq_zero_or_pos n with h0 | h0
  · subst h0
    have hz : zs = [] := List.length_eq_zero_iff.1 (by rw [hl]; simp)
    subst hz
    exact ⟨_, _, _, run_append_nothing _ t t t e i ht hi2 (some ⟨w.heap.size, 0, none⟩) 0 0 (Nat.le_refl _) _ (Src.ofSlice _ ht ⟨g0, 0, none⟩ 0 c [] (by simp) (fun j u hu => by simp at hu) (fun u hu => by simp at hu)), hown, hb⟩
  · have f1 : ∀ (j : Nat) (u : Value), zs[j]? = some u → (w.alloc (.cells #[] e)).cell? ((⟨g0, 0, none⟩ : Addr).add j) = some u := by
      intro j u hu
      have e : (⟨g0, 0, none⟩ : Addr).add j = ⟨g0, j, none⟩ := by unfold Addr.add; split <;> simp_all
      rw [e, hb.cell (p := ⟨g0, j, none⟩) (hg h0)]
      exact hc j u hu
    obtain ⟨g', cap, W', hr, h2, h3, h4, h5⟩ := run_append_lies (w.alloc (.cells #[] e)) t t w.heap.size e i _ size bytes ht hi2 hz0 hz1 hz2 hzs hsz _ 0 [] hown ⟨g0, 0, none⟩ n c zs hl f1 h1 h0 (by unfold maxLen; omega) (by rw [Nat.zero_add]; exact Nat.le_trans (Nat.mul_le_mul hn hb64) (by omega)) (by simp) _ rfl
    rw [Nat.zero_add, List.nil_append] at h2
    rw [Nat.zero_add] at hr
    exact ⟨_, _, W', hr, h2, hb.grown h3 (by simp) (fun k e => by have e' : some w.heap.size = some k := e; injection e' with e'; omega)⟩
def CnP (w : World) (e size : Nat) (n : Nat) (zs : List Value) (en : Ending) (w' : World) : Prop := ∃ p c, en = .returned (.slice p n c) ∧ w'.ownsRow w.heap.size e size (.slice p n c) n zs ∧ Below w.heap.size w w'
theorem own_src {w : World} {B e size n : Nat} {v : Value} {zs : List Value} (h : w.ownsRow B e size v n zs) : (v = .slice none 0 0 ∧ n = 0 ∧ zs = []) ∨ ∃ g cap, v = .slice (some ⟨g, 0, none⟩) n cap ∧ n ≤ cap ∧ g < w.heap.size ∧ ∀ j u, zs[j]? = some u → w.cell? ⟨g, j, none⟩ = some u := by
  have hl := h.1
  rcases own_row h with ⟨e1, e2⟩ | ⟨g, cap, e1, e2, e3⟩
  · refine .inl ⟨e1, e2, ?_⟩
    rw [e2] at hl
    exact List.length_eq_zero_iff.1 (by simpa using hl)
  · refine .inr ⟨g, cap, e1, e2, ?_, e3⟩
    exact own_lt h g (by rw [e1]; rfl)
set_option maxRecDepth 100000 in
set_option maxHeartbeats 1000000 in
theorem clone_steps (w : World) (B n : Nat) (v : Value) (zs : List Value) (h : w.ownsRow B 44 10 v n zs) (h1 : ∀ u ∈ zs, u.oneCell' = true) (hn : n ≤ 1000000) : Calls Tryd.prog 82 #[v] w (CnP w 44 10 n zs) := by
  rcases own_src h with ⟨rfl, rfl, rfl⟩ | ⟨g, cap, rfl, hle, hg, hc⟩
  · have HX : Hid (CnP w 44 10 0 [] (.returned (.slice none 0 0)) w) := ⟨none, 0, rfl, World.ownsRow_nil _ _ _ _, Below.refl _ _⟩
    generalize CnP w 44 10 0 [] = G at HX ⊢
    clear h
    have qn : ∀ (w : World) (a : Option Addr) (n c n' c' : Nat), (binOp .eql 33 (.slice a n c) (.slice none n' c')).run Tryd.prog w = .ok (.bool a.isNone) w := fun w a n c n' c' => Lib.run_eql_slice_nil w _ _ a n c n' c' und33
    go_enter Tryd.func82, Tryd.ntmps82
    go_wp2
    exact HX.out
  · obtain ⟨p, c', W', hr, ho, hb⟩ := app_row 44 33 10 112 _ info44 rfl (by decide) (by omega) und33 w g n cap zs h.1 hn h1 hc (fun _ => hg)
    have HX : Hid (CnP w 44 10 n zs (.returned (.slice p n c')) W') := ⟨p, c', rfl, ho, hb⟩
    have HR : Hid ((Builtin.append_ #[33, 33] 33 #[.slice (some ⟨w.heap.size, 0, none⟩) 0 0, .slice (some ⟨g, 0, none⟩) n cap]).run Tryd.prog (w.alloc (.cells #[] 44)) = .ok (.slice p n c') W') := hr
    generalize CnP w 44 10 n zs = G at HX ⊢
    clear h hc ho hb hr
    have qn : ∀ (w : World) (a : Option Addr) (n c n' c' : Nat), (binOp .eql 33 (.slice a n c) (.slice none n' c')).run Tryd.prog w = .ok (.bool a.isNone) w := fun w a n c n' c' => Lib.run_eql_slice_nil w _ _ a n c n' c' und33
    go_enter Tryd.func82, Tryd.ntmps82
    go_wp2_with (at_builtin; refine wpl_run_append _ rfl _ _ 33 33 rfl rfl rfl HR.out ?_)
    go_wp2
    exact HX.out
set_option maxRecDepth 100000 in
set_option maxHeartbeats 1000000 in
theorem clone_ints (w : World) (B n : Nat) (v : Value) (zs : List Value) (h : w.ownsRow B 3 1 v n zs) (h1 : ∀ u ∈ zs, u.oneCell' = true) (hn : n ≤ 1000000) : Calls Tryd.prog 81 #[v] w (CnP w 3 1 n zs) := by
  rcases own_src h with ⟨rfl, rfl, rfl⟩ | ⟨g, cap, rfl, hle, hg, hc⟩
  · have HX : Hid (CnP w 3 1 0 [] (.returned (.slice none 0 0)) w) := ⟨none, 0, rfl, World.ownsRow_nil _ _ _ _, Below.refl _ _⟩
    generalize CnP w 3 1 0 [] = G at HX ⊢
    clear h
    have qn : ∀ (w : World) (a : Option Addr) (n c n' c' : Nat), (binOp .eql 32 (.slice a n c) (.slice none n' c')).run Tryd.prog w = .ok (.bool a.isNone) w := fun w a n c n' c' => Lib.run_eql_slice_nil w _ _ a n c n' c' und32
    go_enter Tryd.func81, Tryd.ntmps81
    go_wp2
    exact HX.out
  · obtain ⟨p, c', W', hr, ho, hb⟩ := app_row 3 32 1 8 _ info3 rfl (by decide) (by omega) und32 w g n cap zs h.1 hn h1 hc (fun _ => hg)
    have HX : Hid (CnP w 3 1 n zs (.returned (.slice p n c')) W') := ⟨p, c', rfl, ho, hb⟩
    have HR : Hid ((Builtin.append_ #[32, 32] 32 #[.slice (some ⟨w.heap.size, 0, none⟩) 0 0, .slice (some ⟨g, 0, none⟩) n cap]).run Tryd.prog (w.alloc (.cells #[] 3)) = .ok (.slice p n c') W') := hr
    generalize CnP w 3 1 n zs = G at HX ⊢
    clear h hc ho hb hr
    have qn : ∀ (w : World) (a : Option Addr) (n c n' c' : Nat), (binOp .eql 32 (.slice a n c) (.slice none n' c')).run Tryd.prog w = .ok (.bool a.isNone) w := fun w a n c n' c' => Lib.run_eql_slice_nil w _ _ a n c n' c' und32
    go_enter Tryd.func81, Tryd.ntmps81
    go_wp2_with (at_builtin; refine wpl_run_append _ rfl _ _ 32 32 rfl rfl rfl HR.out ?_)
    go_wp2
    exact HX.out
set_option maxRecDepth 100000 in
set_option maxHeartbeats 1000000 in
theorem clone_nil (w : World) : Calls Tryd.prog 81 #[.slice none 0 0] w (fun e w' => e = .returned (.slice none 0 0) ∧ w' = w) := by
  have HX : Hid ((fun e w' => e = Ending.returned (.slice none 0 0) ∧ w' = w) (.returned (.slice none 0 0)) w) := ⟨rfl, rfl⟩
  generalize (fun e w' => e = Ending.returned (.slice none 0 0) ∧ w' = w) = G at HX ⊢
  have qn : ∀ (w : World) (a : Option Addr) (n c n' c' : Nat), (binOp .eql 32 (.slice a n c) (.slice none n' c')).run Tryd.prog w = .ok (.bool a.isNone) w := fun w a n c n' c' => Lib.run_eql_slice_nil w _ _ a n c n' c' und32
  go_enter Tryd.func81, Tryd.ntmps81
  go_wp2
  exact HX.out
theorem set_same {w : World} {b i : Nat} {cs : Array Value} {t : TypeId} {v : Value} (h : w.heap[b]? = some (.cells cs t)) (hi : cs[i]? = some v) (k : Nat) : (w.setCell ⟨b, i, none⟩ v).heap[k]? = w.heap[k]? := by
  by_cases e : k = b
  · subst e
    rw [heap_setCell_same _ _ _ _ _ _ h, h]
    have : cs.setIfInBounds i v = cs := by
      apply Array.ext'
      rw [Array.toList_setIfInBounds]
      apply List.ext_getElem?
      intro j
      rw [List.getElem?_set]
      split
      · rename_i hj
        subst hj
        have h2 : cs.toList[i]? = some v := by simpa using hi
        have h3 := (List.getElem?_eq_some_iff.1 h2).1
        rw [if_pos h3, h2]
      · rfl
    rw [this]
  · exact heap_setCell_other _ _ _ _ e
abbrev fnZ : Obj := .cells #[.string ⟨#[]⟩, .int .i64 0, .slice none 0 0, .slice none 0 0] 35
structure OwI (w : World) (y : ByteArray) (tv sv : Value) (tl : List Int) (l : List Ms) (wr : World) : Prop where
  bel : Below w.heap.size w wr
  b0 : wr.heap[w.heap.size]? = some (.cells #[.string y, .int .i64 0, tv, sv] 35)
  b1 : wr.heap[w.heap.size + 1]? = some fnZ
  t : wr.ownsRow (w.heap.size + 2) 3 1 tv tl.length (ints tl)
  s : wr.ownsRow (w.heap.size + 2) 44 10 sv l.length (rowC l)
theorem OwI.same {w : World} {y : ByteArray} {tv sv : Value} {tl : List Int} {l : List Ms} {wr wr' : World} (h : OwI w y tv sv tl l wr) (hk : ∀ k : Nat, wr'.heap[k]? = wr.heap[k]?) (hs : wr.heap.size ≤ wr'.heap.size) (h1 : wr'.os = wr.os) (h2 : wr'.tape = wr.tape) (h3 : wr'.output = wr.output) : OwI w y tv sv tl l wr' :=
  ⟨⟨h1.trans h.bel.os, h2.trans h.bel.tape, h3.trans h.bel.output, Nat.le_trans h.bel.size hs, fun b hb => by rw [hk]; exact h.bel.block b hb⟩, by rw [hk]; exact h.b0, by rw [hk]; exact h.b1, own_at h.t (fun i _ => hk i), own_at h.s (fun i _ => hk i)⟩
theorem OwI.arg {w : World} {y : ByteArray} {tv sv : Value} {tl : List Int} {l : List Ms} {wr : World} (h : OwI w y tv sv tl l wr) {i : Nat} (hi : i < l.length) : ∃ g cap, sv = .slice (some ⟨g, 0, none⟩) l.length cap ∧ wr.cell? ⟨g, i * 10 + 9, none⟩ = some (.slice none 0 0) ∧ wr.frozen? ⟨g, i * 10 + 9, none⟩ = false ∧ ∀ k : Nat, (wr.drew.setCell ⟨g, i * 10 + 9, none⟩ (.slice none 0 0)).heap[k]? = wr.heap[k]? := by
  obtain ⟨e1, hh⟩ := h.s
  rcases hh with ⟨e2, e3⟩ | ⟨g, cap, cur, e2, hb, hg, hc, hle, hz, ht⟩
  · omega
  · have hx := rowC_get l i l[i] (List.getElem?_eq_getElem hi) 9 (by omega)
    have hx2 : (rowC l)[i * 10 + 9]? = some (.slice none 0 0) := hx
    have hx3 : cur[i * 10 + 9]? = some (.slice none 0 0) := by
      rw [← ht, List.getElem?_take] at hx2
      split at hx2
      · simpa using hx2
      · cases hx2
    exact ⟨g, cap, e2, cell_at hg hx3, row_free hg _, fun k => set_same (w := wr.drew) hg hx3 k⟩
theorem set4 {w : World} {b : Nat} {x y z u x' y' z' u' : Value} {t : TypeId} (h : w.heap[b]? = some (.cells #[x, y, z, u] t)) : ((((w.setCell ⟨b, 0, none⟩ x').setCell ⟨b, 1, none⟩ y').setCell ⟨b, 2, none⟩ z').setCell ⟨b, 3, none⟩ u').heap[b]? = some (.cells #[x', y', z', u'] t) :=
  heap_setCell_same _ _ _ _ _ _ (heap_setCell_same _ _ _ _ _ _ (heap_setCell_same _ _ _ _ _ _ (heap_setCell_same _ _ _ _ _ _ h)))
theorem res64 (tmps : Array Value) (w : World) (g : Nat) (a b c d : Value) (hp : tmps.getD 2 undef = .pointer (some ⟨g, 0, none⟩)) (hg : w.heap[g]? = some (.cells #[a, b, c, d] 35)) :
    (results Tryd.f64 tmps).run Tryd.prog w = .ok (.agg #[a, b, c, d]) w :=
  results_cell_row (p := 2) (ty := 35) Tryd.results64 _ _ g 35 _ (0, 0) _ hp hg Tryd.underlying35 rfl (by kernel_rfl)
def OnP (w : World) (y : ByteArray) (tl : List Int) (l : List Ms) (e : Ending) (w' : World) : Prop := ∃ v, e = .returned v ∧ FlM w' w.heap.size v y tl l ∧ Below w.heap.size w w'
theorem own_fin {w wr : World} {y : ByteArray} {tv sv : Value} {tl : List Int} {l : List Ms} (h : OwI w y tv sv tl l wr) : OnP w y tl l (.returned (.agg #[.string y, .int .i64 0, tv, sv])) ((((wr.setCell ⟨w.heap.size + 1, 0, none⟩ (.string y)).setCell ⟨w.heap.size + 1, 1, none⟩ (.int .i64 0)).setCell ⟨w.heap.size + 1, 2, none⟩ tv).setCell ⟨w.heap.size + 1, 3, none⟩ sv) := by
  have hk : ∀ k, k ≠ w.heap.size + 1 → ((((wr.setCell ⟨w.heap.size + 1, 0, none⟩ (.string y)).setCell ⟨w.heap.size + 1, 1, none⟩ (.int .i64 0)).setCell ⟨w.heap.size + 1, 2, none⟩ tv).setCell ⟨w.heap.size + 1, 3, none⟩ sv).heap[k]? = wr.heap[k]? := fun k hk => by
    rw [heap_setCell_other _ _ _ _ hk, heap_setCell_other _ _ _ _ hk, heap_setCell_other _ _ _ _ hk, heap_setCell_other _ _ _ _ hk]
  refine ⟨_, rfl, ⟨tv, sv, rfl, own_mono (own_at h.t (fun i hi => hk i (by have := (h.t.lt i hi).1; omega))) (by omega), own_mono (own_at h.s (fun i hi => hk i (by have := (h.s.lt i hi).1; omega))) (by omega)⟩, ?_⟩
  refine ⟨h.bel.os, h.bel.tape, h.bel.output, by simp; exact h.bel.size, fun b hb => ?_⟩
  rw [hk b (by omega)]
  exact h.bel.block b hb
set_option maxRecDepth 100000 in
set_option maxHeartbeats 4000000 in
theorem own_any (w : World) (B : Nat) (v : Value) (y : ByteArray) (tl : List Int) (l : List Ms) (h : FlM w B v y tl l) (ht : tl.length ≤ 1000000) (hl : l.length ≤ 1000000) : Calls Tryd.prog 64 #[v] w (OnP w y tl l) := by
  obtain ⟨tv, sv, rfl, h1, h2⟩ := h
  obtain ⟨tq, tc, rfl⟩ := own_slice h1
  obtain ⟨sq, sc, rfl⟩ := own_slice h2
  obtain ⟨nt, hnt⟩ : ∃ nt, tl.length = nt := ⟨_, rfl⟩
  obtain ⟨ns, hns⟩ : ∃ ns, l.length = ns := ⟨_, rfl⟩
  have HN : Hid (tl.length = nt ∧ l.length = ns) := ⟨hnt, hns⟩
  obtain ⟨W2, hW2⟩ : ∃ W2, W2 = (w.alloc (.cells #[.string y, .int .i64 0, .slice tq nt tc, .slice sq ns sc] 35)).alloc fnZ := ⟨_, rfl⟩
  have hb2 : Below w.heap.size w W2 := by rw [hW2]; exact (al_bel _ _).trans ((al_bel (w.alloc _) _).mono (by simp))
  have hz2 : W2.heap.size = w.heap.size + 2 := by rw [hW2]; simp
  have k0 : W2.heap[w.heap.size]? = some (.cells #[.string y, .int .i64 0, .slice tq nt tc, .slice sq ns sc] 35) := by rw [hW2, row_eq_alloc (by simp)]; exact heap_alloc_last _ _
  have k1 : W2.heap[w.heap.size + 1]? = some fnZ := by
    have e : (w.alloc (.cells #[.string y, .int .i64 0, .slice tq nt tc, .slice sq ns sc] 35)).heap.size = w.heap.size + 1 := by simp
    rw [hW2, ← e]; exact heap_alloc_last _ _
  rw [hnt] at h1
  rw [hns] at h2
  have HT : Hid (Calls Tryd.prog 81 #[.slice tq nt tc] W2 (CnP W2 3 1 nt (ints tl))) := clone_ints W2 B nt _ _ (own_at h1 (fun i hi => hb2.block i (own_lt h1 i hi))) (fun u hu => by obtain ⟨x, _, rfl⟩ := List.mem_map.1 hu; rfl) (by omega)
  have HO : Hid (w.ownsRow B 44 10 (.slice sq ns sc) ns (rowC l)) := h2
  have HW2 : Hid (Below w.heap.size w W2 ∧ W2.heap.size = w.heap.size + 2 ∧ W2.heap[w.heap.size]? = some (.cells #[.string y, .int .i64 0, .slice tq nt tc, .slice sq ns sc] 35) ∧ W2.heap[w.heap.size + 1]? = some fnZ) := ⟨hb2, hz2, k0, k1⟩
  have hn6 : ns ≤ 1000000 := by omega
  rw [hnt, hns]
  generalize hG : OnP w y tl l = G
  have HG : Hid (OnP w y tl l = G) := hG
  clear h1 h2 hb2 hz2 k0 k1 hnt hns hG ht hl
  go_enter Tryd.func64, Tryd.ntmps64
  go_wp2_with (go_at_call 81; fail)
  rw [← hW2]
  clear hW2
  refine HT.out.mono ?_
  rintro e w3 ⟨tp, tc', rfl, o3, b3⟩
  have hk0 : w3.heap[w.heap.size]? = some (.cells #[.string y, .int .i64 0, .slice tq nt tc, .slice sq ns sc] 35) := by rw [b3.block _ (by have := HW2.out.2.1; omega)]; exact HW2.out.2.2.1
  obtain ⟨W4, hW4⟩ : ∃ W4, W4 = w3.setCell ⟨w.heap.size, 2, none⟩ (.slice tp nt tc') := ⟨_, rfl⟩
  have hk4 : W4.heap[w.heap.size]? = some (.cells #[.string y, .int .i64 0, .slice tp nt tc', .slice sq ns sc] 35) := by rw [hW4]; exact heap_setCell_same _ _ _ _ _ _ hk0
  have hk5 : ∀ k, k ≠ w.heap.size → W4.heap[k]? = w3.heap[k]? := fun k hk => by rw [hW4]; exact heap_setCell_other _ _ _ _ hk
  have hz4 : w.heap.size + 2 ≤ W4.heap.size := by rw [hW4]; have := b3.size; have := HW2.out.2.1; simp; omega
  have hb4 : Below w.heap.size w W4 := by
    have h1 := HW2.out.1.trans (b3.mono HW2.out.1.size)
    refine ⟨by rw [hW4]; exact h1.os, by rw [hW4]; exact h1.tape, by rw [hW4]; exact h1.output, by omega, fun b hb => by rw [hk5 b (by omega)]; exact h1.block b hb⟩
  have HS : Hid (Calls Tryd.prog 82 #[.slice sq ns sc] W4 (CnP W4 44 10 ns (rowC l))) := clone_steps W4 B ns _ _ (own_at HO.out (fun i hi => hb4.block i (own_lt HO.out i hi))) (rowC_one l) hn6
  have HW4 : Hid (Below w.heap.size w W4 ∧ w.heap.size + 2 ≤ W4.heap.size ∧ W4.heap[w.heap.size]? = some (.cells #[.string y, .int .i64 0, .slice tp nt tc', .slice sq ns sc] 35) ∧ W4.heap[w.heap.size + 1]? = some fnZ ∧ W4.ownsRow (w.heap.size + 2) 3 1 (.slice tp nt tc') nt (ints tl)) := ⟨hb4, hz4, hk4, by rw [hk5 _ (by omega), b3.block _ (by have := HW2.out.2.1; omega)]; exact HW2.out.2.2.2, by
    rw [← HW2.out.2.1]
    exact own_at o3 (fun i hi => hk5 i (by have := (o3.lt i hi).1; have := HW2.out.2.1; omega))⟩
  have c2 := cell_at (i := 2) hk0 rfl
  have f2 := row_free hk0 2
  have c3 := cell_at (i := 3) hk4 rfl
  rw [hW4] at c3
  clear o3 b3 hk0 hk4 hk5 hz4 hb4
  go_wp2_with (go_at_call 82; fail)
  rw [← hW4]
  clear hW4 c2 f2 c3
  refine HS.out.mono ?_
  rintro e w5 ⟨sp, sc', rfl, o5, b5⟩
  have hk0 : w5.heap[w.heap.size]? = some (.cells #[.string y, .int .i64 0, .slice tp nt tc', .slice sq ns sc] 35) := by rw [b5.block _ (by have := HW4.out.2.1; omega)]; exact HW4.out.2.2.1
  obtain ⟨W6, hW6⟩ : ∃ W6, W6 = w5.setCell ⟨w.heap.size, 3, none⟩ (.slice sp ns sc') := ⟨_, rfl⟩
  have hk5 : ∀ k, k ≠ w.heap.size → W6.heap[k]? = w5.heap[k]? := fun k hk => by rw [hW6]; exact heap_setCell_other _ _ _ _ hk
  have HI : Hid (OwI w y (.slice tp nt tc') (.slice sp ns sc') tl l W6) := by
    have h1 := HW4.out.1.trans (b5.mono HW4.out.1.size)
    refine ⟨⟨by rw [hW6]; exact h1.os, by rw [hW6]; exact h1.tape, by rw [hW6]; exact h1.output, by rw [hW6]; simp; exact h1.size, fun b hb => by rw [hk5 b (by omega)]; exact h1.block b hb⟩, by rw [hW6]; exact heap_setCell_same _ _ _ _ _ _ hk0, by rw [hk5 _ (by omega), b5.block _ (by have := HW4.out.2.1; omega)]; exact HW4.out.2.2.2.1, ?_, ?_⟩
    · rw [HN.out.1]
      have ho := HW4.out.2.2.2.2
      exact own_at ho (fun i hi => by rw [hk5 i (by have := (ho.lt i hi).1; omega), b5.block i (own_lt ho i hi)])
    · rw [HN.out.2]
      exact own_mono (own_at o5 (fun i hi => hk5 i (by have := (o5.lt i hi).1; have := HW4.out.2.1; omega))) HW4.out.2.1
  have c2 := cell_at (i := 3) hk0 rfl
  have f2 := row_free hk0 3
  have c3 := cell_at (i := 3) HI.out.b0 rfl
  rw [hW6] at c3
  clear o5 b5 hk0 hk5
  go_wp2_with fail
  rw [← hW6]
  clear hW6 c2 f2 c3
  go_loopw [15] (fun v wr => ∃ i : Nat, i ≤ ns ∧ v = .int .i64 i ∧ Hid (OwI w y (.slice tp nt tc') (.slice sp ns sc') tl l wr)) (fun v _ => ns - (intOf v).toNat)
  case atStart => exact ⟨0, Nat.zero_le _, rfl, HI⟩
  case round =>
    obtain ⟨i, hin, rfl, HJ⟩ := hrel
    have c3 := cell_at (i := 3) HJ.out.b0 rfl
    have c3' : wr.drew.cell? ⟨w.heap.size, 3, none⟩ = some (.slice sp ns sc') := c3
    by_cases hlt : i < ns
    · obtain ⟨g, cap, e1, e2, e3, e4⟩ := HJ.out.arg (i := i) (by have := HN.out.2; omega)
      injection e1 with e1 e5 e6
      subst e1
      have e2' : wr.drew.cell? ⟨g, i * 10 + 9, none⟩ = some (.slice none 0 0) := e2
      have e3' : wr.drew.frozen? ⟨g, i * 10 + 9, none⟩ = false := e3
      have HJ2 : Hid (OwI w y (.slice tp nt tc') (.slice (some ⟨g, 0, none⟩) ns sc') tl l (wr.drew.setCell ⟨g, i * 10 + 9, none⟩ (.slice none 0 0))) := HJ.out.same e4 (by simp [World.setCell]) rfl rfl rfl
      have HC : Hid (∀ W, Calls Tryd.prog 81 #[.slice none 0 0] W (fun e w' => e = .returned (.slice none 0 0) ∧ w' = W)) := fun W => clone_nil W
      have hl9 : (i : Int) < (ns : Int) := by omega
      clear e4 e2 e3 c3 e5 e6
      go_wp2_with fail
      go_region_with (go_at_call 81; refine (HC.out _).mono ?_; rintro e w9 ⟨rfl, rfl⟩)
      all_goals
        go_wp2
        exact ⟨⟨i + 1, by omega, by go_num, HJ2⟩, by simp [intOf]; omega⟩
    · have c0 := cell_at (i := 0) HJ.out.b0 rfl
      have c1 := cell_at (i := 1) HJ.out.b0 rfl
      have c2 := cell_at (i := 2) HJ.out.b0 rfl
      have z0 := cell_at (i := 0) HJ.out.b1 rfl
      have z1 := cell_at (i := 1) HJ.out.b1 rfl
      have z2 := cell_at (i := 2) HJ.out.b1 rfl
      have z3 := cell_at (i := 3) HJ.out.b1 rfl
      have f0 := row_free HJ.out.b1 0
      have f1 := row_free HJ.out.b1 1
      have f2 := row_free HJ.out.b1 2
      have f3 := row_free HJ.out.b1 3
      go_wp2
      refine bodyPost_ret (res64 _ _ (w.heap.size + 1) _ _ _ _ rfl (set4 HJ.out.b1)) rfl ?_
      rw [← HG.out]
      exact own_fin HJ.out
structure Sm0 (w w' : World) : Prop where
  heap : ∀ k : Nat, w'.heap[k]? = w.heap[k]?
  size : w'.heap.size = w.heap.size
  os : w'.os = w.os
  tape : w'.tape = w.tape
  output : w'.output = w.output
theorem Sm0.refl (w : World) : Sm0 w w := ⟨fun _ => rfl, rfl, rfl, rfl, rfl⟩
theorem Sm0.trans {a b c : World} (h : Sm0 a b) (g : Sm0 b c) : Sm0 a c := ⟨fun k => (g.heap k).trans (h.heap k), g.size.trans h.size, g.os.trans h.os, g.tape.trans h.tape, g.output.trans h.output⟩
theorem Sm0.cell {w w' : World} (h : Sm0 w w') (b o : Nat) : w'.cell? ⟨b, o, none⟩ = w.cell? ⟨b, o, none⟩ := World.cell?_of_block (a := ⟨b, o, none⟩) (h.heap b)
theorem Sm0.bel {w w' : World} (h : Sm0 w w') (B : Nat) : Below B w w' := ⟨h.os, h.tape, h.output, by rw [h.size]; exact Nat.le_refl _, fun b _ => h.heap b⟩
def ffm : Nat → Bool × Bool × Bool × Bool × Bool
  | 1 => (false, false, false, true, true)
  | 2 => (true, false, false, true, true)
  | 3 => (true, true, false, true, true)
  | 5 => (true, false, false, false, false)
  | 7 => (false, false, false, true, false)
  | 8 => (true, false, false, false, false)
  | 9 => (true, false, false, true, false)
  | 10 => (true, false, false, true, true)
  | 11 => (true, true, false, true, false)
  | 12 => (true, true, true, false, false)
  | 13 => (true, false, false, false, false)
  | 14 => (false, false, false, true, false)
  | _ => (false, false, false, false, false)
def FfE (w : World) : Prop := ∀ j, j < 15 → w.cell? ⟨2, j * 5, none⟩ = some (.bool (ffm j).1) ∧ w.cell? ⟨2, j * 5 + 1, none⟩ = some (.bool (ffm j).2.1) ∧ w.cell? ⟨2, j * 5 + 2, none⟩ = some (.bool (ffm j).2.2.1) ∧ w.cell? ⟨2, j * 5 + 3, none⟩ = some (.bool (ffm j).2.2.2.1) ∧ w.cell? ⟨2, j * 5 + 4, none⟩ = some (.bool (ffm j).2.2.2.2)
theorem FfE.below {w w' : World} (h : FfE w) (hb : Below w.heap.size w w') : FfE w' := fun j hj => by
  have kp : ∀ (o : Nat) (v : Value), w.cell? ⟨2, o, none⟩ = some v → w'.cell? ⟨2, o, none⟩ = some v := fun o v hv => by rw [hb.cell (p := ⟨2, o, none⟩) (cell_lt hv)]; exact hv
  obtain ⟨a, b, c, d, e⟩ := h j hj
  exact ⟨kp _ _ a, kp _ _ b, kp _ _ c, kp _ _ d, kp _ _ e⟩
structure Strt (nt : Nat) (s : Ms) : Prop where
  code : s.code = 1 ∨ s.code = 2 ∨ s.code = 3 ∨ s.code = 8
  dst : s.code ≠ 8 → 0 ≤ s.dst ∧ s.dst < nt
  a : s.code ≠ 1 → 0 ≤ s.a ∧ s.a < nt
  b : s.code = 3 → 0 ≤ s.b ∧ s.b < nt
set_option maxRecDepth 100000 in
set_option maxHeartbeats 2000000 in
theorem look83 (w : World) (pb po ob fb nt : Nat) (x : Int) (tq : Option Addr) (tc : Nat) (h1 : w.heap[ob]? = some (.cells #[.bool true] 4)) (h2 : w.cell? ⟨pb, po, none⟩ = some (.int .i64 x)) (h3 : w.cell? ⟨fb, 2, none⟩ = some (.slice tq nt tc)) (hx : 0 ≤ x ∧ x < nt) :
    Calls Tryd.prog 83 #[.pointer (some ⟨pb, po, none⟩), ptr ob, ptr fb] w (fun e w' => e = .returned (.tuple #[]) ∧ Sm0 w w') := by
  have HX : Hid ((fun e w' => e = Ending.returned (.tuple #[]) ∧ Sm0 w w') (.returned (.tuple #[])) (w.drew.setCell ⟨ob, 0, none⟩ (.bool true))) := ⟨rfl, fun k => set_same (w := w.drew) h1 rfl k, by simp [World.setCell], rfl, rfl, rfl⟩
  generalize (fun e w' => e = Ending.returned (.tuple #[]) ∧ Sm0 w w') = G at HX ⊢
  have c1 := cell_at (i := 0) h1 rfl
  have c1' : w.drew.cell? ⟨ob, 0, none⟩ = some (.bool true) := c1
  have f1 := row_free h1 0
  have f1' : w.drew.frozen? ⟨ob, 0, none⟩ = false := f1
  have c2' : w.drew.cell? ⟨pb, po, none⟩ = some (.int .i64 x) := h2
  have c3' : w.drew.cell? ⟨fb, 2, none⟩ = some (.slice tq nt tc) := h3
  have hx1 := hx.1
  have hx2 := hx.2
  clear h1 hx
  go_enter Tryd.func83, Tryd.ntmps83
  go_wp2_with fail
  go_region
  all_goals
    go_wp2
    go_end0
    exact HX.out
end Go.Proofs.YtjmbjpimabnohaaDoor.Mid
