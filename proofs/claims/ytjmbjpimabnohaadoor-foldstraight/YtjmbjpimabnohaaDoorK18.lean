/- FI -/
import Derived.Test.YtjmbjpimabnohaaDoorK17
namespace Go.Proofs.YtjmbjpimabnohaaDoor.Mid
set_option linter.unusedVariables false
set_option linter.unusedSimpArgs false
open Go Go.RowKit
def WkP (w : World) (v : Value) (e : Ending) (w' : World) : Prop := e = .returned v ∧ Below w.heap.size w w'
theorem res68 (tmps : Array Value) (w : World) (g : Nat) (a b c d : Value) (hp : tmps.getD 4 undef = .pointer (some ⟨g, 0, none⟩)) (hg : w.heap[g]? = some (.cells #[a, b, c, d] 35)) :
    (results Tryd.f68 tmps).run Tryd.prog w = .ok (.agg #[a, b, c, d]) w :=
  results_cell_row (p := 4) (ty := 35) Tryd.results68 _ _ g 35 _ (0, 0) _ hp hg Tryd.underlying35 rfl (by kernel_rfl)
set_option maxRecDepth 100000 in
set_option maxHeartbeats 4000000 in
theorem without_69 (w : World) (B : Nat) (v : Value) (y : ByteArray) (tl : List Int) (l : List Ms) (nb : Nat) (h : FlM w B v y tl l) (hp : 0 < l.length) (hle : l.length ≤ 1000) (hcl : ∀ (W : World) (i : Nat), Below w.heap.size w W → i < l.length → Calls Tryd.prog 69 #[.int .i64 (i : Int), ptr nb] W (fun e w' => e = .returned (.bool false) ∧ Sm0 W w')) : Calls Tryd.prog 68 #[v, .func (.func 69) #[] #[ptr nb]] w (WkP w v) := by
  obtain ⟨tv, sv, rfl, h1, h2⟩ := h
  obtain ⟨tq, tc, rfl⟩ := own_slice h1
  obtain ⟨sq, sc, rfl⟩ := own_slice h2
  obtain ⟨nt, hnt⟩ : ∃ nt, tl.length = nt := ⟨_, rfl⟩
  obtain ⟨ns, hns⟩ : ∃ ns, l.length = ns := ⟨_, rfl⟩
  rw [hns] at h2 hp hle hcl
  obtain ⟨e1, hh⟩ := id h2
  obtain ⟨sb, cap, cur, e2, hb0, hg0, hc0, hm0, hz0, ht0⟩ : ∃ (g cap : Nat) (cur : Array Value), Value.slice sq ns sc = .slice (some ⟨g, 0, none⟩) ns cap ∧ B ≤ g ∧ w.heap[g]? = some (.cells cur 44) ∧ ns ≤ cap ∧ cap ≤ maxLen ∧ cur.size = cap * 10 ∧ cur.toList.take (ns * 10) = rowC l := by
    rcases hh with ⟨e2, e3⟩ | ⟨g, cap, cur, a1, a2, a3, a4, a5, a6, a7⟩
    · omega
    · exact ⟨g, cap, cur, a1, a2, a3, a4, a5, a6, a7⟩
  injection e2 with e2 e3 e4
  subst e2
  subst e4
  have HCu : Hid (w.heap[sb]? = some (.cells cur 44) ∧ ∀ i s, l[i]? = some s → ∀ j, j < 10 → cur[i * 10 + j]? = (sC s)[j]?) := ⟨hg0, fun i s hi j hj => by
    have hx := rowC_get l i s hi j hj
    have hlen : (sC s).length = 10 := rfl
    have hsi : (sC s)[j]? = some ((sC s)[j]'(by omega)) := List.getElem?_eq_getElem _
    rw [hsi] at hx ⊢
    rw [← ht0, List.getElem?_take] at hx
    split at hx
    · simpa using hx
    · cases hx⟩
  have hsb : sb < w.heap.size := (Array.getElem?_eq_some_iff.1 hg0).1
  obtain ⟨W2, hW2⟩ : ∃ W2, W2 = (w.alloc (.cells #[.string y, .int .i64 0, .slice tq nt tc, .slice (some ⟨sb, 0, none⟩) ns sc] 35)).alloc fnZ := ⟨_, rfl⟩
  have hb2 : Below w.heap.size w W2 := by rw [hW2]; exact (al_bel _ _).trans ((al_bel (w.alloc _) _).mono (by simp))
  have hz2 : W2.heap.size = w.heap.size + 2 := by rw [hW2]; simp
  have k0 : W2.heap[w.heap.size]? = some (.cells #[.string y, .int .i64 0, .slice tq nt tc, .slice (some ⟨sb, 0, none⟩) ns sc] 35) := by rw [hW2, row_eq_alloc (by simp)]; exact heap_alloc_last _ _
  have k1 : W2.heap[w.heap.size + 1]? = some fnZ := by
    have e : (w.alloc (.cells #[.string y, .int .i64 0, .slice tq nt tc, .slice (some ⟨sb, 0, none⟩) ns sc] 35)).heap.size = w.heap.size + 1 := by simp
    rw [hW2, ← e]; exact heap_alloc_last _ _
  have HW2 : Hid (Below w.heap.size w W2 ∧ W2.heap.size = w.heap.size + 2 ∧ W2.heap[w.heap.size]? = some (.cells #[.string y, .int .i64 0, .slice tq nt tc, .slice (some ⟨sb, 0, none⟩) ns sc] 35) ∧ W2.heap[w.heap.size + 1]? = some fnZ) := ⟨hb2, hz2, k0, k1⟩
  have HR : Hid (w.ownsRow B 44 10 (.slice (some ⟨sb, 0, none⟩) ns sc) ns (rowC l) ∧ l.length = ns) := ⟨h2, hns⟩
  have HCl : Hid (∀ (W : World) (i : Nat), Below w.heap.size w W → i < ns → Calls Tryd.prog 69 #[.int .i64 (i : Int), ptr nb] W (fun e w' => e = .returned (.bool false) ∧ Sm0 W w')) := hcl
  have HG : Hid (∀ W, Below w.heap.size w W → WkP w (.agg #[.string y, .int .i64 0, .slice tq nt tc, .slice (some ⟨sb, 0, none⟩) ns sc]) (.returned (.agg #[.string y, .int .i64 0, .slice tq nt tc, .slice (some ⟨sb, 0, none⟩) ns sc])) W) := fun W hb => ⟨rfl, hb⟩
  have u3 := cell_at (i := 3) k0 rfl
  rw [hW2] at u3
  rw [hnt]
  rw [hns]
  generalize WkP w (.agg #[.string y, .int .i64 0, .slice tq nt tc, .slice (some ⟨sb, 0, none⟩) ns sc]) = G at HG ⊢
  have hclr := clear_none
  clear h1 h2 hcl hb2 hz2 k0 k1 hnt hns hg0 ht0 hh e1 e3 hb0 hm0 hz0
  go_enter Tryd.func68, Tryd.ntmps68
  go_wp2_with fail
  rw [← hW2]
  clear hW2 u3
  go_loopw [5, 13] (fun kv v wr => ∃ i : Nat, i ≤ ns ∧ kv = .slice (some ⟨sb, 0, none⟩) i sc ∧ v = .int .i64 i ∧ Hid (Below W2.heap.size W2 wr)) (fun _ v _ => ns - (intOf v).toNat)
  case atStart => exact ⟨0, Nat.zero_le _, rfl, rfl, Below.refl _ _⟩
  case round =>
    obtain ⟨i, hin, rfl, rfl, HB⟩ := hrel
    have HBw : Hid (Below w.heap.size w wr) := HW2.out.1.trans (HB.out.mono HW2.out.1.size)
    by_cases hlt : i < ns
    · have HC1 : Hid (Calls Tryd.prog 69 #[.int .i64 (i : Int), ptr nb] wr (fun e w' => e = .returned (.bool false) ∧ Sm0 wr w')) := HCl.out wr i HBw.out hlt
      go_wp2_with (go_at_call 69; fail)
      refine HC1.out.mono ?_
      rintro e w3 ⟨rfl, hm⟩
      obtain ⟨s, hsi⟩ : ∃ s, l[i]? = some s := ⟨l[i]'(by have := HR.out.2; omega), List.getElem?_eq_getElem _⟩
      have hb3 : Below W2.heap.size W2 w3 := HB.out.trans (hm.bel _)
      have hbw3 : Below w.heap.size w w3 := HW2.out.1.trans (hb3.mono HW2.out.1.size)
      have k0 : w3.heap[w.heap.size]? = some (.cells #[.string y, .int .i64 0, .slice tq nt tc, .slice (some ⟨sb, 0, none⟩) ns sc] 35) := by rw [hb3.block _ (by have := HW2.out.2.1; omega)]; exact HW2.out.2.2.1
      have x3 := cell_at (i := 3) k0 rfl
      have hcur : w3.heap[sb]? = some (.cells cur 44) := by rw [hbw3.block sb hsb]; exact HCu.out.1
      have hcc := HCu.out.2 i s hsi
      have s0 : w3.cell? ⟨sb, i * 10, none⟩ = some (.int .i64 s.code) := cell_at hcur (by have := hcc 0 (by omega); rw [Nat.add_zero] at this; exact this)
      have s1 : w3.cell? ⟨sb, i * 10 + 1, none⟩ = some (.int .i64 s.dst) := cell_at hcur (hcc 1 (by omega))
      have s2 : w3.cell? ⟨sb, i * 10 + 2, none⟩ = some (.int .i64 s.a) := cell_at hcur (hcc 2 (by omega))
      have s3 : w3.cell? ⟨sb, i * 10 + 3, none⟩ = some (.int .i64 s.b) := cell_at hcur (hcc 3 (by omega))
      have s4 : w3.cell? ⟨sb, i * 10 + 4, none⟩ = some (.int .i64 s.c) := cell_at hcur (hcc 4 (by omega))
      have s5 : w3.cell? ⟨sb, i * 10 + 5, none⟩ = some (.int .i64 s.n) := cell_at hcur (hcc 5 (by omega))
      have s6 : w3.cell? ⟨sb, i * 10 + 6, none⟩ = some (.string ⟨s.op.toArray⟩) := cell_at hcur (hcc 6 (by omega))
      have s7 : w3.cell? ⟨sb, i * 10 + 7, none⟩ = some (.int .i64 s.label) := cell_at hcur (hcc 7 (by omega))
      have s8 : w3.cell? ⟨sb, i * 10 + 8, none⟩ = some (.string ⟨s.name.toArray⟩) := cell_at hcur (hcc 8 (by omega))
      have s9 : w3.cell? ⟨sb, i * 10 + 9, none⟩ = some (.slice none 0 0) := cell_at hcur (hcc 9 (by omega))
      obtain ⟨A, hA⟩ : ∃ A : Obj, A = .cells #[.int .i64 s.code, .int .i64 s.dst, .int .i64 s.a, .int .i64 s.b, .int .i64 s.c, .int .i64 s.n, .string ⟨s.op.toArray⟩, .int .i64 s.label, .string ⟨s.name.toArray⟩, .slice none 0 0] 44 := ⟨_, rfl⟩
      have hcurA : (w3.alloc A).heap[sb]? = some (.cells cur 44) := by rw [(al_bel w3 A).block sb (Array.getElem?_eq_some_iff.1 hcur).1]; exact hcur
      have hrun := app_at (w3.alloc A) sb i sc w3.heap.size (sC s) rfl (by rw [hA]; exact World.news_of_block (cs := (sC s).toArray) (t := 44) (fr := (0, 0)) (heap_alloc_last w3 _)) (fun u hu => rowC_one [s] u (by unfold rowC; simpa using hu)) (by omega) cur hcurA hcc
      have hsm := sets_same sb (sC s) (i * 10) (w3.alloc A) cur 44 hcurA hcc
      obtain ⟨W9, hW9⟩ : ∃ W9, (w3.alloc A).setCells sb (i * 10) (sC s) = W9 := ⟨_, rfl⟩
      rw [hW9] at hrun hsm
      have HB9 : Hid (Below W2.heap.size W2 W9) := hb3.trans (((al_bel w3 A).mono hb3.size).trans (hsm.bel _))
      have HR9 : Hid ((Builtin.append_ #[33, 33] 33 #[.slice (some ⟨sb, 0, none⟩) i sc, .slice (some ⟨w3.heap.size, 0, none⟩) 1 1]).run Tryd.prog (w3.alloc A) = .ok (.slice (some ⟨sb, 0, none⟩) (i + 1) sc) W9) := hrun
      generalize s.code = v0 at s0 hA
      generalize s.dst = v1 at s1 hA
      generalize s.a = v2 at s2 hA
      generalize s.b = v3 at s3 hA
      generalize s.c = v4 at s4 hA
      generalize s.n = v5 at s5 hA
      generalize s.label = v7 at s7 hA
      generalize (⟨s.op.toArray⟩ : ByteArray) = v6 at s6 hA
      generalize (⟨s.name.toArray⟩ : ByteArray) = v8 at s8 hA
      rw [hA] at HR9
      clear hm hsi hb3 hbw3 k0 hcur hcc hcurA hrun hsm hW9 hA
      go_wp2_with (at_builtin; refine wpl_run_append _ rfl _ _ 33 33 rfl rfl rfl HR9.out ?_)
      go_wp2
      exact ⟨⟨i + 1, by omega, rfl, by go_num, HB9⟩, by simp [intOf]; omega⟩
    · have hie : ns = i := by omega
      subst hie
      have k0 : wr.heap[w.heap.size]? = some (.cells #[.string y, .int .i64 0, .slice tq nt tc, .slice (some ⟨sb, 0, none⟩) ns sc] 35) := by rw [HB.out.block _ (by have := HW2.out.2.1; omega)]; exact HW2.out.2.2.1
      have k1 : wr.heap[w.heap.size + 1]? = some fnZ := by rw [HB.out.block _ (by have := HW2.out.2.1; omega)]; exact HW2.out.2.2.2
      have x0 := cell_at (i := 0) k0 rfl
      have x1 := cell_at (i := 1) k0 rfl
      have x2 := cell_at (i := 2) k0 rfl
      have x3 := cell_at (i := 3) k0 rfl
      have f3 := row_free k0 3
      have z0 := cell_at (i := 0) k1 rfl
      have z1 := cell_at (i := 1) k1 rfl
      have z2 := cell_at (i := 2) k1 rfl
      have z3 := cell_at (i := 3) k1 rfl
      have g0 := row_free k1 0
      have g1 := row_free k1 1
      have g2 := row_free k1 2
      have g3 := row_free k1 3
      have HK : Hid (wr.heap[w.heap.size]? = some (.cells #[.string y, .int .i64 0, .slice tq nt tc, .slice (some ⟨sb, 0, none⟩) ns sc] 35) ∧ wr.heap[w.heap.size + 1]? = some fnZ) := ⟨k0, k1⟩
      clear k0 k1 hin
      go_wp2
      all_goals
        try (have e9 : sc = ns := by omega
             subst e9)
        refine bodyPost_ret (res68 _ _ (w.heap.size + 1) _ _ _ _ rfl (set4 (x := .string ⟨#[]⟩) (y := .int .i64 0) (z := .slice none 0 0) (u := .slice none 0 0) (by rw [heap_setCell_other _ _ _ _ (by show w.heap.size + 1 ≠ w.heap.size; omega)]; exact HK.out.2))) rfl ?_
        exact HG.out _ (((((HBw.out.setCell (p := ⟨w.heap.size, 3, none⟩) (Nat.le_refl _) _).setCell (p := ⟨w.heap.size + 1, 0, none⟩) (by show w.heap.size ≤ w.heap.size + 1; omega) _).setCell (p := ⟨w.heap.size + 1, 1, none⟩) (by show w.heap.size ≤ w.heap.size + 1; omega) _).setCell (p := ⟨w.heap.size + 1, 2, none⟩) (by show w.heap.size ≤ w.heap.size + 1; omega) _).setCell (p := ⟨w.heap.size + 1, 3, none⟩) (by show w.heap.size ≤ w.heap.size + 1; omega) _)
set_option maxRecDepth 100000 in
set_option maxHeartbeats 4000000 in
theorem without_85 (w : World) (B : Nat) (v : Value) (y : ByteArray) (tl : List Int) (l : List Ms) (nb : Nat) (h : FlM w B v y tl l) (hp : 0 < l.length) (hle : l.length ≤ 1000) (hcl : ∀ (W : World) (i : Nat), Below w.heap.size w W → i < l.length → Calls Tryd.prog 85 #[.int .i64 (i : Int), ptr nb] W (fun e w' => e = .returned (.bool false) ∧ Sm0 W w')) : Calls Tryd.prog 68 #[v, .func (.func 85) #[] #[ptr nb]] w (WkP w v) := by
  obtain ⟨tv, sv, rfl, h1, h2⟩ := h
  obtain ⟨tq, tc, rfl⟩ := own_slice h1
  obtain ⟨sq, sc, rfl⟩ := own_slice h2
  obtain ⟨nt, hnt⟩ : ∃ nt, tl.length = nt := ⟨_, rfl⟩
  obtain ⟨ns, hns⟩ : ∃ ns, l.length = ns := ⟨_, rfl⟩
  rw [hns] at h2 hp hle hcl
  obtain ⟨e1, hh⟩ := id h2
  obtain ⟨sb, cap, cur, e2, hb0, hg0, hc0, hm0, hz0, ht0⟩ : ∃ (g cap : Nat) (cur : Array Value), Value.slice sq ns sc = .slice (some ⟨g, 0, none⟩) ns cap ∧ B ≤ g ∧ w.heap[g]? = some (.cells cur 44) ∧ ns ≤ cap ∧ cap ≤ maxLen ∧ cur.size = cap * 10 ∧ cur.toList.take (ns * 10) = rowC l := by
    rcases hh with ⟨e2, e3⟩ | ⟨g, cap, cur, a1, a2, a3, a4, a5, a6, a7⟩
    · omega
    · exact ⟨g, cap, cur, a1, a2, a3, a4, a5, a6, a7⟩
  injection e2 with e2 e3 e4
  subst e2
  subst e4
  have HCu : Hid (w.heap[sb]? = some (.cells cur 44) ∧ ∀ i s, l[i]? = some s → ∀ j, j < 10 → cur[i * 10 + j]? = (sC s)[j]?) := ⟨hg0, fun i s hi j hj => by
    have hx := rowC_get l i s hi j hj
    have hlen : (sC s).length = 10 := rfl
    have hsi : (sC s)[j]? = some ((sC s)[j]'(by omega)) := List.getElem?_eq_getElem _
    rw [hsi] at hx ⊢
    rw [← ht0, List.getElem?_take] at hx
    split at hx
    · simpa using hx
    · cases hx⟩
  have hsb : sb < w.heap.size := (Array.getElem?_eq_some_iff.1 hg0).1
  obtain ⟨W2, hW2⟩ : ∃ W2, W2 = (w.alloc (.cells #[.string y, .int .i64 0, .slice tq nt tc, .slice (some ⟨sb, 0, none⟩) ns sc] 35)).alloc fnZ := ⟨_, rfl⟩
  have hb2 : Below w.heap.size w W2 := by rw [hW2]; exact (al_bel _ _).trans ((al_bel (w.alloc _) _).mono (by simp))
  have hz2 : W2.heap.size = w.heap.size + 2 := by rw [hW2]; simp
  have k0 : W2.heap[w.heap.size]? = some (.cells #[.string y, .int .i64 0, .slice tq nt tc, .slice (some ⟨sb, 0, none⟩) ns sc] 35) := by rw [hW2, row_eq_alloc (by simp)]; exact heap_alloc_last _ _
  have k1 : W2.heap[w.heap.size + 1]? = some fnZ := by
    have e : (w.alloc (.cells #[.string y, .int .i64 0, .slice tq nt tc, .slice (some ⟨sb, 0, none⟩) ns sc] 35)).heap.size = w.heap.size + 1 := by simp
    rw [hW2, ← e]; exact heap_alloc_last _ _
  have HW2 : Hid (Below w.heap.size w W2 ∧ W2.heap.size = w.heap.size + 2 ∧ W2.heap[w.heap.size]? = some (.cells #[.string y, .int .i64 0, .slice tq nt tc, .slice (some ⟨sb, 0, none⟩) ns sc] 35) ∧ W2.heap[w.heap.size + 1]? = some fnZ) := ⟨hb2, hz2, k0, k1⟩
  have HR : Hid (w.ownsRow B 44 10 (.slice (some ⟨sb, 0, none⟩) ns sc) ns (rowC l) ∧ l.length = ns) := ⟨h2, hns⟩
  have HCl : Hid (∀ (W : World) (i : Nat), Below w.heap.size w W → i < ns → Calls Tryd.prog 85 #[.int .i64 (i : Int), ptr nb] W (fun e w' => e = .returned (.bool false) ∧ Sm0 W w')) := hcl
  have HG : Hid (∀ W, Below w.heap.size w W → WkP w (.agg #[.string y, .int .i64 0, .slice tq nt tc, .slice (some ⟨sb, 0, none⟩) ns sc]) (.returned (.agg #[.string y, .int .i64 0, .slice tq nt tc, .slice (some ⟨sb, 0, none⟩) ns sc])) W) := fun W hb => ⟨rfl, hb⟩
  have u3 := cell_at (i := 3) k0 rfl
  rw [hW2] at u3
  rw [hnt]
  rw [hns]
  generalize WkP w (.agg #[.string y, .int .i64 0, .slice tq nt tc, .slice (some ⟨sb, 0, none⟩) ns sc]) = G at HG ⊢
  have hclr := clear_none
  clear h1 h2 hcl hb2 hz2 k0 k1 hnt hns hg0 ht0 hh e1 e3 hb0 hm0 hz0
  go_enter Tryd.func68, Tryd.ntmps68
  go_wp2_with fail
  rw [← hW2]
  clear hW2 u3
  go_loopw [5, 13] (fun kv v wr => ∃ i : Nat, i ≤ ns ∧ kv = .slice (some ⟨sb, 0, none⟩) i sc ∧ v = .int .i64 i ∧ Hid (Below W2.heap.size W2 wr)) (fun _ v _ => ns - (intOf v).toNat)
  case atStart => exact ⟨0, Nat.zero_le _, rfl, rfl, Below.refl _ _⟩
  case round =>
    obtain ⟨i, hin, rfl, rfl, HB⟩ := hrel
    have HBw : Hid (Below w.heap.size w wr) := HW2.out.1.trans (HB.out.mono HW2.out.1.size)
    by_cases hlt : i < ns
    · have HC1 : Hid (Calls Tryd.prog 85 #[.int .i64 (i : Int), ptr nb] wr (fun e w' => e = .returned (.bool false) ∧ Sm0 wr w')) := HCl.out wr i HBw.out hlt
      go_wp2_with (go_at_call 85; fail)
      refine HC1.out.mono ?_
      rintro e w3 ⟨rfl, hm⟩
      obtain ⟨s, hsi⟩ : ∃ s, l[i]? = some s := ⟨l[i]'(by have := HR.out.2; omega), List.getElem?_eq_getElem _⟩
      have hb3 : Below W2.heap.size W2 w3 := HB.out.trans (hm.bel _)
      have hbw3 : Below w.heap.size w w3 := HW2.out.1.trans (hb3.mono HW2.out.1.size)
      have k0 : w3.heap[w.heap.size]? = some (.cells #[.string y, .int .i64 0, .slice tq nt tc, .slice (some ⟨sb, 0, none⟩) ns sc] 35) := by rw [hb3.block _ (by have := HW2.out.2.1; omega)]; exact HW2.out.2.2.1
      have x3 := cell_at (i := 3) k0 rfl
      have hcur : w3.heap[sb]? = some (.cells cur 44) := by rw [hbw3.block sb hsb]; exact HCu.out.1
      have hcc := HCu.out.2 i s hsi
      have s0 : w3.cell? ⟨sb, i * 10, none⟩ = some (.int .i64 s.code) := cell_at hcur (by have := hcc 0 (by omega); rw [Nat.add_zero] at this; exact this)
      have s1 : w3.cell? ⟨sb, i * 10 + 1, none⟩ = some (.int .i64 s.dst) := cell_at hcur (hcc 1 (by omega))
      have s2 : w3.cell? ⟨sb, i * 10 + 2, none⟩ = some (.int .i64 s.a) := cell_at hcur (hcc 2 (by omega))
      have s3 : w3.cell? ⟨sb, i * 10 + 3, none⟩ = some (.int .i64 s.b) := cell_at hcur (hcc 3 (by omega))
      have s4 : w3.cell? ⟨sb, i * 10 + 4, none⟩ = some (.int .i64 s.c) := cell_at hcur (hcc 4 (by omega))
      have s5 : w3.cell? ⟨sb, i * 10 + 5, none⟩ = some (.int .i64 s.n) := cell_at hcur (hcc 5 (by omega))
      have s6 : w3.cell? ⟨sb, i * 10 + 6, none⟩ = some (.string ⟨s.op.toArray⟩) := cell_at hcur (hcc 6 (by omega))
      have s7 : w3.cell? ⟨sb, i * 10 + 7, none⟩ = some (.int .i64 s.label) := cell_at hcur (hcc 7 (by omega))
      have s8 : w3.cell? ⟨sb, i * 10 + 8, none⟩ = some (.string ⟨s.name.toArray⟩) := cell_at hcur (hcc 8 (by omega))
      have s9 : w3.cell? ⟨sb, i * 10 + 9, none⟩ = some (.slice none 0 0) := cell_at hcur (hcc 9 (by omega))
      obtain ⟨A, hA⟩ : ∃ A : Obj, A = .cells #[.int .i64 s.code, .int .i64 s.dst, .int .i64 s.a, .int .i64 s.b, .int .i64 s.c, .int .i64 s.n, .string ⟨s.op.toArray⟩, .int .i64 s.label, .string ⟨s.name.toArray⟩, .slice none 0 0] 44 := ⟨_, rfl⟩
      have hcurA : (w3.alloc A).heap[sb]? = some (.cells cur 44) := by rw [(al_bel w3 A).block sb (Array.getElem?_eq_some_iff.1 hcur).1]; exact hcur
      have hrun := app_at (w3.alloc A) sb i sc w3.heap.size (sC s) rfl (by rw [hA]; exact World.news_of_block (cs := (sC s).toArray) (t := 44) (fr := (0, 0)) (heap_alloc_last w3 _)) (fun u hu => rowC_one [s] u (by unfold rowC; simpa using hu)) (by omega) cur hcurA hcc
      have hsm := sets_same sb (sC s) (i * 10) (w3.alloc A) cur 44 hcurA hcc
      obtain ⟨W9, hW9⟩ : ∃ W9, (w3.alloc A).setCells sb (i * 10) (sC s) = W9 := ⟨_, rfl⟩
      rw [hW9] at hrun hsm
      have HB9 : Hid (Below W2.heap.size W2 W9) := hb3.trans (((al_bel w3 A).mono hb3.size).trans (hsm.bel _))
      have HR9 : Hid ((Builtin.append_ #[33, 33] 33 #[.slice (some ⟨sb, 0, none⟩) i sc, .slice (some ⟨w3.heap.size, 0, none⟩) 1 1]).run Tryd.prog (w3.alloc A) = .ok (.slice (some ⟨sb, 0, none⟩) (i + 1) sc) W9) := hrun
      generalize s.code = v0 at s0 hA
      generalize s.dst = v1 at s1 hA
      generalize s.a = v2 at s2 hA
      generalize s.b = v3 at s3 hA
      generalize s.c = v4 at s4 hA
      generalize s.n = v5 at s5 hA
      generalize s.label = v7 at s7 hA
      generalize (⟨s.op.toArray⟩ : ByteArray) = v6 at s6 hA
      generalize (⟨s.name.toArray⟩ : ByteArray) = v8 at s8 hA
      rw [hA] at HR9
      clear hm hsi hb3 hbw3 k0 hcur hcc hcurA hrun hsm hW9 hA
      go_wp2_with (at_builtin; refine wpl_run_append _ rfl _ _ 33 33 rfl rfl rfl HR9.out ?_)
      go_wp2
      exact ⟨⟨i + 1, by omega, rfl, by go_num, HB9⟩, by simp [intOf]; omega⟩
    · have hie : ns = i := by omega
      subst hie
      have k0 : wr.heap[w.heap.size]? = some (.cells #[.string y, .int .i64 0, .slice tq nt tc, .slice (some ⟨sb, 0, none⟩) ns sc] 35) := by rw [HB.out.block _ (by have := HW2.out.2.1; omega)]; exact HW2.out.2.2.1
      have k1 : wr.heap[w.heap.size + 1]? = some fnZ := by rw [HB.out.block _ (by have := HW2.out.2.1; omega)]; exact HW2.out.2.2.2
      have x0 := cell_at (i := 0) k0 rfl
      have x1 := cell_at (i := 1) k0 rfl
      have x2 := cell_at (i := 2) k0 rfl
      have x3 := cell_at (i := 3) k0 rfl
      have f3 := row_free k0 3
      have z0 := cell_at (i := 0) k1 rfl
      have z1 := cell_at (i := 1) k1 rfl
      have z2 := cell_at (i := 2) k1 rfl
      have z3 := cell_at (i := 3) k1 rfl
      have g0 := row_free k1 0
      have g1 := row_free k1 1
      have g2 := row_free k1 2
      have g3 := row_free k1 3
      have HK : Hid (wr.heap[w.heap.size]? = some (.cells #[.string y, .int .i64 0, .slice tq nt tc, .slice (some ⟨sb, 0, none⟩) ns sc] 35) ∧ wr.heap[w.heap.size + 1]? = some fnZ) := ⟨k0, k1⟩
      clear k0 k1 hin
      go_wp2
      all_goals
        try (have e9 : sc = ns := by omega
             subst e9)
        refine bodyPost_ret (res68 _ _ (w.heap.size + 1) _ _ _ _ rfl (set4 (x := .string ⟨#[]⟩) (y := .int .i64 0) (z := .slice none 0 0) (u := .slice none 0 0) (by rw [heap_setCell_other _ _ _ _ (by show w.heap.size + 1 ≠ w.heap.size; omega)]; exact HK.out.2))) rfl ?_
        exact HG.out _ (((((HBw.out.setCell (p := ⟨w.heap.size, 3, none⟩) (Nat.le_refl _) _).setCell (p := ⟨w.heap.size + 1, 0, none⟩) (by show w.heap.size ≤ w.heap.size + 1; omega) _).setCell (p := ⟨w.heap.size + 1, 1, none⟩) (by show w.heap.size ≤ w.heap.size + 1; omega) _).setCell (p := ⟨w.heap.size + 1, 2, none⟩) (by show w.heap.size ≤ w.heap.size + 1; omega) _).setCell (p := ⟨w.heap.size + 1, 3, none⟩) (by show w.heap.size ≤ w.heap.size + 1; omega) _)
set_option maxRecDepth 100000 in
set_option maxHeartbeats 4000000 in
theorem without_71 (w : World) (B : Nat) (v : Value) (y : ByteArray) (tl : List Int) (l : List Ms) (fb ab : Nat) (h : FlM w B v y tl l) (hp : 0 < l.length) (hle : l.length ≤ 1000) (hcl : ∀ (W : World) (i : Nat), Below w.heap.size w W → i < l.length → Calls Tryd.prog 71 #[.int .i64 (i : Int), ptr fb, ptr ab] W (fun e w' => e = .returned (.bool false) ∧ Sm0 W w')) : Calls Tryd.prog 68 #[v, .func (.func 71) #[] #[ptr fb, ptr ab]] w (WkP w v) := by
  obtain ⟨tv, sv, rfl, h1, h2⟩ := h
  obtain ⟨tq, tc, rfl⟩ := own_slice h1
  obtain ⟨sq, sc, rfl⟩ := own_slice h2
  obtain ⟨nt, hnt⟩ : ∃ nt, tl.length = nt := ⟨_, rfl⟩
  obtain ⟨ns, hns⟩ : ∃ ns, l.length = ns := ⟨_, rfl⟩
  rw [hns] at h2 hp hle hcl
  obtain ⟨e1, hh⟩ := id h2
  obtain ⟨sb, cap, cur, e2, hb0, hg0, hc0, hm0, hz0, ht0⟩ : ∃ (g cap : Nat) (cur : Array Value), Value.slice sq ns sc = .slice (some ⟨g, 0, none⟩) ns cap ∧ B ≤ g ∧ w.heap[g]? = some (.cells cur 44) ∧ ns ≤ cap ∧ cap ≤ maxLen ∧ cur.size = cap * 10 ∧ cur.toList.take (ns * 10) = rowC l := by
    rcases hh with ⟨e2, e3⟩ | ⟨g, cap, cur, a1, a2, a3, a4, a5, a6, a7⟩
    · omega
    · exact ⟨g, cap, cur, a1, a2, a3, a4, a5, a6, a7⟩
  injection e2 with e2 e3 e4
  subst e2
  subst e4
  have HCu : Hid (w.heap[sb]? = some (.cells cur 44) ∧ ∀ i s, l[i]? = some s → ∀ j, j < 10 → cur[i * 10 + j]? = (sC s)[j]?) := ⟨hg0, fun i s hi j hj => by
    have hx := rowC_get l i s hi j hj
    have hlen : (sC s).length = 10 := rfl
    have hsi : (sC s)[j]? = some ((sC s)[j]'(by omega)) := List.getElem?_eq_getElem _
    rw [hsi] at hx ⊢
    rw [← ht0, List.getElem?_take] at hx
    split at hx
    · simpa using hx
    · cases hx⟩
  have hsb : sb < w.heap.size := (Array.getElem?_eq_some_iff.1 hg0).1
  obtain ⟨W2, hW2⟩ : ∃ W2, W2 = (w.alloc (.cells #[.string y, .int .i64 0, .slice tq nt tc, .slice (some ⟨sb, 0, none⟩) ns sc] 35)).alloc fnZ := ⟨_, rfl⟩
  have hb2 : Below w.heap.size w W2 := by rw [hW2]; exact (al_bel _ _).trans ((al_bel (w.alloc _) _).mono (by simp))
  have hz2 : W2.heap.size = w.heap.size + 2 := by rw [hW2]; simp
  have k0 : W2.heap[w.heap.size]? = some (.cells #[.string y, .int .i64 0, .slice tq nt tc, .slice (some ⟨sb, 0, none⟩) ns sc] 35) := by rw [hW2, row_eq_alloc (by simp)]; exact heap_alloc_last _ _
  have k1 : W2.heap[w.heap.size + 1]? = some fnZ := by
    have e : (w.alloc (.cells #[.string y, .int .i64 0, .slice tq nt tc, .slice (some ⟨sb, 0, none⟩) ns sc] 35)).heap.size = w.heap.size + 1 := by simp
    rw [hW2, ← e]; exact heap_alloc_last _ _
  have HW2 : Hid (Below w.heap.size w W2 ∧ W2.heap.size = w.heap.size + 2 ∧ W2.heap[w.heap.size]? = some (.cells #[.string y, .int .i64 0, .slice tq nt tc, .slice (some ⟨sb, 0, none⟩) ns sc] 35) ∧ W2.heap[w.heap.size + 1]? = some fnZ) := ⟨hb2, hz2, k0, k1⟩
  have HR : Hid (w.ownsRow B 44 10 (.slice (some ⟨sb, 0, none⟩) ns sc) ns (rowC l) ∧ l.length = ns) := ⟨h2, hns⟩
  have HCl : Hid (∀ (W : World) (i : Nat), Below w.heap.size w W → i < ns → Calls Tryd.prog 71 #[.int .i64 (i : Int), ptr fb, ptr ab] W (fun e w' => e = .returned (.bool false) ∧ Sm0 W w')) := hcl
  have HG : Hid (∀ W, Below w.heap.size w W → WkP w (.agg #[.string y, .int .i64 0, .slice tq nt tc, .slice (some ⟨sb, 0, none⟩) ns sc]) (.returned (.agg #[.string y, .int .i64 0, .slice tq nt tc, .slice (some ⟨sb, 0, none⟩) ns sc])) W) := fun W hb => ⟨rfl, hb⟩
  have u3 := cell_at (i := 3) k0 rfl
  rw [hW2] at u3
  rw [hnt]
  rw [hns]
  generalize WkP w (.agg #[.string y, .int .i64 0, .slice tq nt tc, .slice (some ⟨sb, 0, none⟩) ns sc]) = G at HG ⊢
  have hclr := clear_none
  clear h1 h2 hcl hb2 hz2 k0 k1 hnt hns hg0 ht0 hh e1 e3 hb0 hm0 hz0
  go_enter Tryd.func68, Tryd.ntmps68
  go_wp2_with fail
  rw [← hW2]
  clear hW2 u3
  go_loopw [5, 13] (fun kv v wr => ∃ i : Nat, i ≤ ns ∧ kv = .slice (some ⟨sb, 0, none⟩) i sc ∧ v = .int .i64 i ∧ Hid (Below W2.heap.size W2 wr)) (fun _ v _ => ns - (intOf v).toNat)
  case atStart => exact ⟨0, Nat.zero_le _, rfl, rfl, Below.refl _ _⟩
  case round =>
    obtain ⟨i, hin, rfl, rfl, HB⟩ := hrel
    have HBw : Hid (Below w.heap.size w wr) := HW2.out.1.trans (HB.out.mono HW2.out.1.size)
    by_cases hlt : i < ns
    · have HC1 : Hid (Calls Tryd.prog 71 #[.int .i64 (i : Int), ptr fb, ptr ab] wr (fun e w' => e = .returned (.bool false) ∧ Sm0 wr w')) := HCl.out wr i HBw.out hlt
      go_wp2_with (go_at_call 71; fail)
      refine HC1.out.mono ?_
      rintro e w3 ⟨rfl, hm⟩
      obtain ⟨s, hsi⟩ : ∃ s, l[i]? = some s := ⟨l[i]'(by have := HR.out.2; omega), List.getElem?_eq_getElem _⟩
      have hb3 : Below W2.heap.size W2 w3 := HB.out.trans (hm.bel _)
      have hbw3 : Below w.heap.size w w3 := HW2.out.1.trans (hb3.mono HW2.out.1.size)
      have k0 : w3.heap[w.heap.size]? = some (.cells #[.string y, .int .i64 0, .slice tq nt tc, .slice (some ⟨sb, 0, none⟩) ns sc] 35) := by rw [hb3.block _ (by have := HW2.out.2.1; omega)]; exact HW2.out.2.2.1
      have x3 := cell_at (i := 3) k0 rfl
      have hcur : w3.heap[sb]? = some (.cells cur 44) := by rw [hbw3.block sb hsb]; exact HCu.out.1
      have hcc := HCu.out.2 i s hsi
      have s0 : w3.cell? ⟨sb, i * 10, none⟩ = some (.int .i64 s.code) := cell_at hcur (by have := hcc 0 (by omega); rw [Nat.add_zero] at this; exact this)
      have s1 : w3.cell? ⟨sb, i * 10 + 1, none⟩ = some (.int .i64 s.dst) := cell_at hcur (hcc 1 (by omega))
      have s2 : w3.cell? ⟨sb, i * 10 + 2, none⟩ = some (.int .i64 s.a) := cell_at hcur (hcc 2 (by omega))
      have s3 : w3.cell? ⟨sb, i * 10 + 3, none⟩ = some (.int .i64 s.b) := cell_at hcur (hcc 3 (by omega))
      have s4 : w3.cell? ⟨sb, i * 10 + 4, none⟩ = some (.int .i64 s.c) := cell_at hcur (hcc 4 (by omega))
      have s5 : w3.cell? ⟨sb, i * 10 + 5, none⟩ = some (.int .i64 s.n) := cell_at hcur (hcc 5 (by omega))
      have s6 : w3.cell? ⟨sb, i * 10 + 6, none⟩ = some (.string ⟨s.op.toArray⟩) := cell_at hcur (hcc 6 (by omega))
      have s7 : w3.cell? ⟨sb, i * 10 + 7, none⟩ = some (.int .i64 s.label) := cell_at hcur (hcc 7 (by omega))
      have s8 : w3.cell? ⟨sb, i * 10 + 8, none⟩ = some (.string ⟨s.name.toArray⟩) := cell_at hcur (hcc 8 (by omega))
      have s9 : w3.cell? ⟨sb, i * 10 + 9, none⟩ = some (.slice none 0 0) := cell_at hcur (hcc 9 (by omega))
      obtain ⟨A, hA⟩ : ∃ A : Obj, A = .cells #[.int .i64 s.code, .int .i64 s.dst, .int .i64 s.a, .int .i64 s.b, .int .i64 s.c, .int .i64 s.n, .string ⟨s.op.toArray⟩, .int .i64 s.label, .string ⟨s.name.toArray⟩, .slice none 0 0] 44 := ⟨_, rfl⟩
      have hcurA : (w3.alloc A).heap[sb]? = some (.cells cur 44) := by rw [(al_bel w3 A).block sb (Array.getElem?_eq_some_iff.1 hcur).1]; exact hcur
      have hrun := app_at (w3.alloc A) sb i sc w3.heap.size (sC s) rfl (by rw [hA]; exact World.news_of_block (cs := (sC s).toArray) (t := 44) (fr := (0, 0)) (heap_alloc_last w3 _)) (fun u hu => rowC_one [s] u (by unfold rowC; simpa using hu)) (by omega) cur hcurA hcc
      have hsm := sets_same sb (sC s) (i * 10) (w3.alloc A) cur 44 hcurA hcc
      obtain ⟨W9, hW9⟩ : ∃ W9, (w3.alloc A).setCells sb (i * 10) (sC s) = W9 := ⟨_, rfl⟩
      rw [hW9] at hrun hsm
      have HB9 : Hid (Below W2.heap.size W2 W9) := hb3.trans (((al_bel w3 A).mono hb3.size).trans (hsm.bel _))
      have HR9 : Hid ((Builtin.append_ #[33, 33] 33 #[.slice (some ⟨sb, 0, none⟩) i sc, .slice (some ⟨w3.heap.size, 0, none⟩) 1 1]).run Tryd.prog (w3.alloc A) = .ok (.slice (some ⟨sb, 0, none⟩) (i + 1) sc) W9) := hrun
      generalize s.code = v0 at s0 hA
      generalize s.dst = v1 at s1 hA
      generalize s.a = v2 at s2 hA
      generalize s.b = v3 at s3 hA
      generalize s.c = v4 at s4 hA
      generalize s.n = v5 at s5 hA
      generalize s.label = v7 at s7 hA
      generalize (⟨s.op.toArray⟩ : ByteArray) = v6 at s6 hA
      generalize (⟨s.name.toArray⟩ : ByteArray) = v8 at s8 hA
      rw [hA] at HR9
      clear hm hsi hb3 hbw3 k0 hcur hcc hcurA hrun hsm hW9 hA
      go_wp2_with (at_builtin; refine wpl_run_append _ rfl _ _ 33 33 rfl rfl rfl HR9.out ?_)
      go_wp2
      exact ⟨⟨i + 1, by omega, rfl, by go_num, HB9⟩, by simp [intOf]; omega⟩
    · have hie : ns = i := by omega
      subst hie
      have k0 : wr.heap[w.heap.size]? = some (.cells #[.string y, .int .i64 0, .slice tq nt tc, .slice (some ⟨sb, 0, none⟩) ns sc] 35) := by rw [HB.out.block _ (by have := HW2.out.2.1; omega)]; exact HW2.out.2.2.1
      have k1 : wr.heap[w.heap.size + 1]? = some fnZ := by rw [HB.out.block _ (by have := HW2.out.2.1; omega)]; exact HW2.out.2.2.2
      have x0 := cell_at (i := 0) k0 rfl
      have x1 := cell_at (i := 1) k0 rfl
      have x2 := cell_at (i := 2) k0 rfl
      have x3 := cell_at (i := 3) k0 rfl
      have f3 := row_free k0 3
      have z0 := cell_at (i := 0) k1 rfl
      have z1 := cell_at (i := 1) k1 rfl
      have z2 := cell_at (i := 2) k1 rfl
      have z3 := cell_at (i := 3) k1 rfl
      have g0 := row_free k1 0
      have g1 := row_free k1 1
      have g2 := row_free k1 2
      have g3 := row_free k1 3
      have HK : Hid (wr.heap[w.heap.size]? = some (.cells #[.string y, .int .i64 0, .slice tq nt tc, .slice (some ⟨sb, 0, none⟩) ns sc] 35) ∧ wr.heap[w.heap.size + 1]? = some fnZ) := ⟨k0, k1⟩
      clear k0 k1 hin
      go_wp2
      all_goals
        try (have e9 : sc = ns := by omega
             subst e9)
        refine bodyPost_ret (res68 _ _ (w.heap.size + 1) _ _ _ _ rfl (set4 (x := .string ⟨#[]⟩) (y := .int .i64 0) (z := .slice none 0 0) (u := .slice none 0 0) (by rw [heap_setCell_other _ _ _ _ (by show w.heap.size + 1 ≠ w.heap.size; omega)]; exact HK.out.2))) rfl ?_
        exact HG.out _ (((((HBw.out.setCell (p := ⟨w.heap.size, 3, none⟩) (Nat.le_refl _) _).setCell (p := ⟨w.heap.size + 1, 0, none⟩) (by show w.heap.size ≤ w.heap.size + 1; omega) _).setCell (p := ⟨w.heap.size + 1, 1, none⟩) (by show w.heap.size ≤ w.heap.size + 1; omega) _).setCell (p := ⟨w.heap.size + 1, 2, none⟩) (by show w.heap.size ≤ w.heap.size + 1; omega) _).setCell (p := ⟨w.heap.size + 1, 3, none⟩) (by show w.heap.size ≤ w.heap.size + 1; omega) _)
end Go.Proofs.YtjmbjpimabnohaaDoor.Mid
