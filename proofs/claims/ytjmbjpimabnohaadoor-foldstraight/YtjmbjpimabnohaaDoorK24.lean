/- FU FV FW FY GA -/
import Derived.Test.YtjmbjpimabnohaaDoorK23
namespace Go.Proofs.YtjmbjpimabnohaaDoor.Mid
set_option linter.unusedVariables false
set_option linter.unusedSimpArgs false
open Go Go.RowKit
theorem FcM.setG {w : World} {X : Fx} {S : Fs} (h : FcM w X S) {g o : Nat} {v : Value} (hg : g ∉ X.Z) : FcM (w.setCell ⟨g, o, none⟩ v) X S := by
  have ho : ∀ b, b ∈ X.Z → (w.setCell ⟨g, o, none⟩ v).heap[b]? = w.heap[b]? := fun b hb => heap_setCell_other _ _ _ _ (fun e => hg (by have e2 : b = g := e; rw [← e2]; exact hb))
  exact ⟨by rw [ho _ (by simp [Fx.Z])]; exact h.blk, h.holds.kept (ho _ (by simp [Fx.Z])), h.homes.kept (ho _ (by simp [Fx.Z])), h.nums.kept (ho _ (by simp [Fx.Z])), h.vals.kept (ho _ (by simp [Fx.Z])), h.nd, h.few⟩
def LhP (w : World) (X : Fx) (S : Fs) (g po : Nat) (p : Int) (e : Ending) (w' : World) : Prop := e = .returned (.tuple #[]) ∧ ∃ r S1 w1, HoR S p r S1 ∧ Ko X.Z w w1 ∧ w' = w1.setCell ⟨g, po, none⟩ (.int .i64 r) ∧ FcM w' X S1
set_option maxRecDepth 100000 in
set_option maxHeartbeats 2000000 in
theorem look92 (w : World) (X : Fx) (S : Fs) (bb g po nt p : Nat) (cs : Array Value) (t : TypeId) (h : FcM w X S) (ht : TyE w X nt) (hp : p < nt) (hn : nt ≤ 1000000) (hr : Rm S) (hI : ∀ v S0, VaR S (p : Int) v S0 → I64 v) (hbb : w.cell? ⟨bb, 0, none⟩ = some (ptr X.kb)) (hg : g ∉ X.Z) (hb : w.heap[g]? = some (.cells cs t)) (hc : w.cell? ⟨g, po, none⟩ = some (.int .i64 (p : Int))) :
    Calls Tryd.prog 92 #[.pointer (some ⟨g, po, none⟩), ptr bb] w (LhP w X S g po (p : Int)) := by
  have HH : Hid (∀ W, W = w.drew → Calls Tryd.prog 93 #[ptr X.kb, .int .i64 (p : Int)] W (fun e w1 => ∃ r, e = .returned (.int .i64 r) ∧ w1.cell? ⟨g, po, none⟩ = some (.int .i64 (p : Int)) ∧ w1.frozen? ⟨g, po, none⟩ = false ∧ LhP w X S g po (p : Int) (.returned (.tuple #[])) (w1.setCell ⟨g, po, none⟩ (.int .i64 r)))) := fun W hW => by
    subst hW
    refine (home_93 w.drew X S nt p ⟨h.blk, h.holds, h.homes, h.nums, h.vals, h.nd, h.few⟩ (show TyE w.drew X nt from ht) hp hn hr hI).mono ?_
    rintro e w1 ⟨r, S1, r1, rfl, h1, k1⟩
    have k2 : Ko X.Z w w1 := k1.undrew
    have hb1 : w1.heap[g]? = some (.cells cs t) := by rw [k2.blk g (Array.getElem?_eq_some_iff.1 hb).1 hg]; exact hb
    exact ⟨r, rfl, k2.cell hg hc, row_free hb1 po, rfl, r, S1, w1, r1, k2, rfl, h1.setG hg⟩
  have x1 : w.drew.cell? ⟨bb, 0, none⟩ = some (ptr X.kb) := hbb
  have x2 : w.drew.cell? ⟨g, po, none⟩ = some (.int .i64 (p : Int)) := hc
  generalize LhP w X S g po (p : Int) = G at HH ⊢
  clear h ht hr hI hbb hb hc hg
  go_enter Tryd.func92, Tryd.ntmps92
  go_wp2_with fail
  go_region_with (go_at_call 93; refine (HH.out _ rfl).mono ?_; rintro e w1 ⟨r, rfl, y1, y2, y3⟩; have HX : Hid (G (.returned (.tuple #[])) (w1.setCell ⟨g, po, none⟩ (.int .i64 r))) := y3; clear y3)
  all_goals
    go_wp2
    go_end0
    exact HX.out
def FgP (w : World) (kb : Nat) (c : Nat → Value) (e : Ending) (w' : World) : Prop :=
  e = .returned (.tuple #[]) ∧ w'.heap[kb]? = some (.cells #[c 0, c 1, c 2, c 3, c 4, c 5, .map (some w.heap.size), .map (some (w.heap.size + 1)), c 8, c 9, c 10, c 11] 137) ∧ Mp 3 w' w.heap.size (fun _ => none) 0 ∧ Mp 3 w' (w.heap.size + 1) (fun _ => none) 0 ∧ w'.heap.size = w.heap.size + 2 ∧ Ko [kb] w w'
set_option maxRecDepth 100000 in
set_option maxHeartbeats 1000000 in
theorem forget_77 (w : World) (kb : Nat) (c : Nat → Value) (h : w.heap[kb]? = some (.cells #[c 0, c 1, c 2, c 3, c 4, c 5, c 6, c 7, c 8, c 9, c 10, c 11] 137)) : Calls Tryd.prog 77 #[ptr kb] w (FgP w kb c) := by
  have hlt : kb < w.heap.size := (Array.getElem?_eq_some_iff.1 h).1
  obtain ⟨W, hW⟩ : ∃ W, W = (w.alloc (.map #[] 0)).alloc (.map #[] 0) := ⟨_, rfl⟩
  have hz : (w.alloc (.map #[] 0)).heap.size = w.heap.size + 1 := by simp
  have hbW : Below w.heap.size w W := by rw [hW]; exact (al_bel _ _).trans ((al_bel (w.alloc _) _).mono (by simp))
  have k0 : W.heap[kb]? = some (.cells #[c 0, c 1, c 2, c 3, c 4, c 5, c 6, c 7, c 8, c 9, c 10, c 11] 137) := by rw [hbW.block kb hlt]; exact h
  have m1 : Mp 3 W w.heap.size (fun _ => none) 0 := (Mp.made 3 w).kept (by rw [hW, row_eq_alloc (by omega)])
  have m2 : Mp 3 W (w.heap.size + 1) (fun _ => none) 0 := by rw [hW, ← hz]; exact Mp.made 3 _
  obtain ⟨W2, hW2⟩ : ∃ W2, W2 = (W.setCell ⟨kb, 6, none⟩ (.map (some w.heap.size))).setCell ⟨kb, 7, none⟩ (.map (some (w.heap.size + 1))) := ⟨_, rfl⟩
  have ho : ∀ b, b ≠ kb → W2.heap[b]? = W.heap[b]? := fun b hb => by rw [hW2, heap_setCell_other _ _ _ _ hb, heap_setCell_other _ _ _ _ hb]
  have HX : Hid (FgP w kb c (.returned (.tuple #[])) W2) := by
    refine ⟨rfl, ?_, m1.kept (ho _ (by omega)), m2.kept (ho _ (by omega)), ?_, ⟨?_, ?_, ?_, ?_, fun b hb hz => ?_⟩⟩
    · rw [hW2]
      exact heap_setCell_same _ _ _ _ _ _ (heap_setCell_same _ _ _ _ _ _ k0)
    · rw [hW2, hW]; simp
    · rw [hW2]; exact hbW.os
    · rw [hW2]; exact hbW.tape
    · rw [hW2]; exact hbW.output
    · rw [hW2]; simp; exact hbW.size
    · rw [ho b (by simpa using hz)]; exact hbW.block b hb
  have k1 : (W.setCell ⟨kb, 6, none⟩ (.map (some w.heap.size))).heap[kb]? = some (.cells #[c 0, c 1, c 2, c 3, c 4, c 5, .map (some w.heap.size), c 7, c 8, c 9, c 10, c 11] 137) := heap_setCell_same _ _ _ _ _ _ k0
  have c6 : W.cell? ⟨kb, 6, none⟩ = some (c 6) := cell_at (i := 6) k0 rfl
  have f6 := row_free k0 6
  have c7 : (W.setCell ⟨kb, 6, none⟩ (.map (some w.heap.size))).cell? ⟨kb, 7, none⟩ = some (c 7) := cell_at (i := 7) k1 rfl
  have f7 := row_free k1 7
  rw [hW2, hW] at HX
  rw [hW] at c6 f6 c7 f7
  have hmm : ∀ W : World, (Instr.makeMap 69 none).run Tryd.prog W = .ok (.map (some W.heap.size)) (W.alloc (.map #[] 0)) := fun W => by simp [Instr.makeMap, go_sem]
  generalize FgP w kb c = G at HX ⊢
  clear h hbW k0 k1 m1 m2 ho hW2 hW hz hlt
  go_enter Tryd.func77, Tryd.ntmps77
  go_wp2
  go_end0
  exact HX.out
theorem FcM.below {w w' : World} {X : Fx} {S : Fs} (h : FcM w X S) (hb : Below w.heap.size w w') : FcM w' X S :=
  ⟨by rw [hb.block _ (Array.getElem?_eq_some_iff.1 h.blk).1]; exact h.blk, h.holds.kept (hb.block _ h.holds.lt), h.homes.kept (hb.block _ h.homes.lt), h.nums.kept (hb.block _ h.nums.lt), h.vals.kept (hb.block _ h.vals.lt), h.nd, h.few⟩
theorem FcM.new {w : World} {X : Fx} {S : Fs} (h : FcM w X S) {b : Nat} (hb : w.heap.size ≤ b) : b ∉ X.Z := by
  have a1 := (Array.getElem?_eq_some_iff.1 h.blk).1
  have a2 := h.holds.lt
  have a3 := h.homes.lt
  have a4 := h.nums.lt
  have a5 := h.vals.lt
  simp only [Fx.Z, List.mem_cons, List.not_mem_nil, or_false, not_or]
  omega
theorem Ko.of_below {Z : List Nat} {w w' : World} (h : Below w.heap.size w w') : Ko Z w w' := ⟨h.os, h.tape, h.output, h.size, fun b hb _ => h.block b hb⟩
abbrev look92V (bb : Nat) : Value := .func (.func 92) #[] #[ptr bb]
set_option maxRecDepth 100000 in
set_option maxHeartbeats 2000000 in
theorem reads92_1 (w : World) (bb g o : Nat) (hff : FfE w) (c0 : w.cell? ⟨g, o, none⟩ = some (.int .i64 1)) : Calls Tryd.prog 84 #[.pointer (some ⟨g, o, none⟩), look92V bb] w (BlP w) := by
  obtain ⟨g0, g1, g2, g3, g4⟩ := hff 1 (by omega)
  obtain ⟨A, hA⟩ : ∃ A : Obj, A = .cells #[.bool false, .bool false, .bool false, .bool true, .bool true] 145 := ⟨_, rfl⟩
  have HX : Hid (BlP w (.returned (.tuple #[])) (w.alloc A)) := ⟨rfl, al_bel _ _⟩
  have hc1 : (w.alloc A).cell? ⟨g, o, none⟩ = some (.int .i64 1) := cell_old c0
  simp only [ffm] at g0 g1 g2 g3 g4
  rw [hA] at HX hc1
  generalize BlP w = G at HX ⊢
  clear hff hA
  go_enter Tryd.func84, Tryd.ntmps84
  go_wp2
  go_end0
  exact HX.out
set_option maxRecDepth 100000 in
set_option maxHeartbeats 4000000 in
theorem reads92_2 (w : World) (X : Fx) (S : Fs) (bb g o nt p : Nat) (cs : Array Value) (t : TypeId) (h : FcM w X S) (ht : TyE w X nt) (hp : p < nt) (hn : nt ≤ 1000000) (hr : Rm S) (hI : ∀ v S0, VaR S (p : Int) v S0 → I64 v) (hbb : w.cell? ⟨bb, 0, none⟩ = some (ptr X.kb)) (hg : g ∉ X.Z) (hb : w.heap[g]? = some (.cells cs t)) (hff : FfE w) (c0 : w.cell? ⟨g, o, none⟩ = some (.int .i64 2)) (c2 : w.cell? ⟨g, o + 2, none⟩ = some (.int .i64 (p : Int))) :
    Calls Tryd.prog 84 #[.pointer (some ⟨g, o, none⟩), look92V bb] w (LhP w X S g (o + 2) (p : Int)) := by
  obtain ⟨g0, g1, g2, g3, g4⟩ := hff 2 (by omega)
  obtain ⟨A, hA⟩ : ∃ A : Obj, A = .cells #[.bool true, .bool false, .bool false, .bool true, .bool true] 145 := ⟨_, rfl⟩
  have hbA := al_bel w A
  have kA : Ko X.Z w (w.alloc A) := Ko.of_below hbA
  have hgl : g < w.heap.size := (Array.getElem?_eq_some_iff.1 hb).1
  have HLk : Hid (Calls Tryd.prog 92 #[.pointer (some ⟨g, o + 2, none⟩), ptr bb] (w.alloc A) (fun e w' => e = .returned (.tuple #[]) ∧ w'.heap[w.heap.size]? = some (.cells #[.bool true, .bool false, .bool false, .bool true, .bool true] 145) ∧ w'.cell? ⟨g, o, none⟩ = some (.int .i64 2) ∧ LhP w X S g (o + 2) (p : Int) (.returned (.tuple #[])) w')) := by
    refine (look92 (w.alloc A) X S bb g (o + 2) nt p cs t (h.below hbA) (ht.on kA) hp hn hr hI (cell_old hbb) hg (by rw [hbA.block g hgl]; exact hb) (cell_old c2)).mono ?_
    rintro e w' ⟨rfl, r, S1, w1, r1, k1, rfl, h1⟩
    refine ⟨rfl, ?_, ?_, rfl, r, S1, w1, r1, kA.trans k1, rfl, h1⟩
    · rw [heap_setCell_other _ _ _ _ (by show w.heap.size ≠ g; omega), k1.blk w.heap.size (by simp) (h.new (Nat.le_refl _)), heap_alloc_last, hA]
    · rw [World.cell?_setCell_other _ _ _ _ (by intro e; injection e with _ e; omega)]
      exact k1.cell hg (cell_old c0)
  have hc1 : (w.alloc A).cell? ⟨g, o, none⟩ = some (.int .i64 2) := cell_old c0
  simp only [ffm] at g0 g1 g2 g3 g4
  rw [hA] at HLk hc1
  generalize LhP w X S g (o + 2) (p : Int) = G at HLk ⊢
  clear hff hA h ht hr hI hbb hb hbA kA c2
  go_enter Tryd.func84, Tryd.ntmps84
  go_wp2_with (go_at_call 92; fail)
  refine HLk.out.mono ?_
  rintro e w2 ⟨rfl, hb2, y0, hG⟩
  have HX : Hid (G (.returned (.tuple #[])) w2) := hG
  have x1 := cell_at (i := 1) hb2 rfl
  have x2 := cell_at (i := 2) hb2 rfl
  clear hb2 hG g0 g1 g2 g3 g4 hc1 c0
  go_wp2
  go_end0
  exact HX.out
set_option maxRecDepth 100000 in
set_option maxHeartbeats 4000000 in
theorem reads92_8 (w : World) (X : Fx) (S : Fs) (bb g o nt p : Nat) (cs : Array Value) (t : TypeId) (h : FcM w X S) (ht : TyE w X nt) (hp : p < nt) (hn : nt ≤ 1000000) (hr : Rm S) (hI : ∀ v S0, VaR S (p : Int) v S0 → I64 v) (hbb : w.cell? ⟨bb, 0, none⟩ = some (ptr X.kb)) (hg : g ∉ X.Z) (hb : w.heap[g]? = some (.cells cs t)) (hff : FfE w) (c0 : w.cell? ⟨g, o, none⟩ = some (.int .i64 8)) (c2 : w.cell? ⟨g, o + 2, none⟩ = some (.int .i64 (p : Int))) :
    Calls Tryd.prog 84 #[.pointer (some ⟨g, o, none⟩), look92V bb] w (LhP w X S g (o + 2) (p : Int)) := by
  obtain ⟨g0, g1, g2, g3, g4⟩ := hff 8 (by omega)
  obtain ⟨A, hA⟩ : ∃ A : Obj, A = .cells #[.bool true, .bool false, .bool false, .bool false, .bool false] 145 := ⟨_, rfl⟩
  have hbA := al_bel w A
  have kA : Ko X.Z w (w.alloc A) := Ko.of_below hbA
  have hgl : g < w.heap.size := (Array.getElem?_eq_some_iff.1 hb).1
  have HLk : Hid (Calls Tryd.prog 92 #[.pointer (some ⟨g, o + 2, none⟩), ptr bb] (w.alloc A) (fun e w' => e = .returned (.tuple #[]) ∧ w'.heap[w.heap.size]? = some (.cells #[.bool true, .bool false, .bool false, .bool false, .bool false] 145) ∧ w'.cell? ⟨g, o, none⟩ = some (.int .i64 8) ∧ LhP w X S g (o + 2) (p : Int) (.returned (.tuple #[])) w')) := by
    refine (look92 (w.alloc A) X S bb g (o + 2) nt p cs t (h.below hbA) (ht.on kA) hp hn hr hI (cell_old hbb) hg (by rw [hbA.block g hgl]; exact hb) (cell_old c2)).mono ?_
    rintro e w' ⟨rfl, r, S1, w1, r1, k1, rfl, h1⟩
    refine ⟨rfl, ?_, ?_, rfl, r, S1, w1, r1, kA.trans k1, rfl, h1⟩
    · rw [heap_setCell_other _ _ _ _ (by show w.heap.size ≠ g; omega), k1.blk w.heap.size (by simp) (h.new (Nat.le_refl _)), heap_alloc_last, hA]
    · rw [World.cell?_setCell_other _ _ _ _ (by intro e; injection e with _ e; omega)]
      exact k1.cell hg (cell_old c0)
  have hc1 : (w.alloc A).cell? ⟨g, o, none⟩ = some (.int .i64 8) := cell_old c0
  simp only [ffm] at g0 g1 g2 g3 g4
  rw [hA] at HLk hc1
  generalize LhP w X S g (o + 2) (p : Int) = G at HLk ⊢
  clear hff hA h ht hr hI hbb hb hbA kA c2
  go_enter Tryd.func84, Tryd.ntmps84
  go_wp2_with (go_at_call 92; fail)
  refine HLk.out.mono ?_
  rintro e w2 ⟨rfl, hb2, y0, hG⟩
  have HX : Hid (G (.returned (.tuple #[])) w2) := hG
  have x1 := cell_at (i := 1) hb2 rfl
  have x2 := cell_at (i := 2) hb2 rfl
  clear hb2 hG g0 g1 g2 g3 g4 hc1 c0
  go_wp2
  go_end0
  exact HX.out
def L3P (w : World) (X : Fx) (S : Fs) (g o : Nat) (a b : Int) (e : Ending) (w' : World) : Prop := e = .returned (.tuple #[]) ∧ ∃ r1 S1 r2 S2 w1 w3, HoR S a r1 S1 ∧ HoR S1 b r2 S2 ∧ Ko X.Z w w1 ∧ Ko X.Z (w1.setCell ⟨g, o + 2, none⟩ (.int .i64 r1)) w3 ∧ w' = w3.setCell ⟨g, o + 3, none⟩ (.int .i64 r2) ∧ FcM w' X S2
set_option maxRecDepth 100000 in
set_option maxHeartbeats 4000000 in
theorem reads92_3 (w : World) (X : Fx) (S : Fs) (bb g o nt a b : Nat) (cs : Array Value) (t : TypeId) (h : FcM w X S) (ht : TyE w X nt) (ha : a < nt) (hb' : b < nt) (hn : nt ≤ 1000000) (hr : Rm S) (hI : ∀ v S0, VaR S (a : Int) v S0 → I64 v) (hr1 : ∀ r S1, HoR S (a : Int) r S1 → Rm S1 ∧ ∀ v S0, VaR S1 (b : Int) v S0 → I64 v) (hbb : w.cell? ⟨bb, 0, none⟩ = some (ptr X.kb)) (hbZ : bb ∉ X.Z) (hbg : bb ≠ g) (htg : ∀ tb tc, X.tv = .slice (some ⟨tb, 0, none⟩) nt tc → tb ≠ g) (hg : g ∉ X.Z) (hb : w.heap[g]? = some (.cells cs t)) (hff : FfE w) (c0 : w.cell? ⟨g, o, none⟩ = some (.int .i64 3)) (c2 : w.cell? ⟨g, o + 2, none⟩ = some (.int .i64 (a : Int))) (c3 : w.cell? ⟨g, o + 3, none⟩ = some (.int .i64 (b : Int))) :
    Calls Tryd.prog 84 #[.pointer (some ⟨g, o, none⟩), look92V bb] w (L3P w X S g o (a : Int) (b : Int)) := by
  obtain ⟨g0, g1, g2, g3, g4⟩ := hff 3 (by omega)
  obtain ⟨A, hA⟩ : ∃ A : Obj, A = .cells #[.bool true, .bool true, .bool false, .bool true, .bool true] 145 := ⟨_, rfl⟩
  have hbA := al_bel w A
  have kA : Ko X.Z w (w.alloc A) := Ko.of_below hbA
  have hgl : g < w.heap.size := (Array.getElem?_eq_some_iff.1 hb).1
  have hbl : bb < w.heap.size := cell_lt hbb
  have hnw : w.heap.size ∉ X.Z := h.new (Nat.le_refl _)
  have HLk : Hid (Calls Tryd.prog 92 #[.pointer (some ⟨g, o + 2, none⟩), ptr bb] (w.alloc A) (fun e w2 => e = .returned (.tuple #[]) ∧ w2.heap[w.heap.size]? = some (.cells #[.bool true, .bool true, .bool false, .bool true, .bool true] 145) ∧ Calls Tryd.prog 92 #[.pointer (some ⟨g, o + 3, none⟩), ptr bb] w2 (fun e w' => e = .returned (.tuple #[]) ∧ w'.heap[w.heap.size]? = some (.cells #[.bool true, .bool true, .bool false, .bool true, .bool true] 145) ∧ w'.cell? ⟨g, o, none⟩ = some (.int .i64 3) ∧ L3P w X S g o (a : Int) (b : Int) (.returned (.tuple #[])) w'))) := by
    refine (look92 (w.alloc A) X S bb g (o + 2) nt a cs t (h.below hbA) (ht.on kA) ha hn hr hI (cell_old hbb) hg (by rw [hbA.block g hgl]; exact hb) (cell_old c2)).mono ?_
    rintro e w2 ⟨rfl, r1, S1, w1, q1, k1, rfl, h1⟩
    have hb1 : w1.heap[g]? = some (.cells cs t) := by rw [(kA.trans k1).blk g hgl hg]; exact hb
    have hbx : (w1.setCell ⟨g, o + 2, none⟩ (.int .i64 r1)).heap[w.heap.size]? = some (.cells #[.bool true, .bool true, .bool false, .bool true, .bool true] 145) := by rw [heap_setCell_other _ _ _ _ (by show w.heap.size ≠ g; omega), k1.blk w.heap.size (by simp) hnw, heap_alloc_last, hA]
    have d0 : (w1.setCell ⟨g, o + 2, none⟩ (.int .i64 r1)).cell? ⟨g, o, none⟩ = some (.int .i64 3) := by
      rw [World.cell?_setCell_other _ _ _ _ (by intro e; injection e with _ e; omega)]
      exact k1.cell hg (cell_old c0)
    have d3 : (w1.setCell ⟨g, o + 2, none⟩ (.int .i64 r1)).cell? ⟨g, o + 3, none⟩ = some (.int .i64 (b : Int)) := by
      rw [World.cell?_setCell_other _ _ _ _ (by intro e; injection e with _ e; omega)]
      exact k1.cell hg (cell_old c3)
    have dbb : (w1.setCell ⟨g, o + 2, none⟩ (.int .i64 r1)).cell? ⟨bb, 0, none⟩ = some (ptr X.kb) := by
      rw [World.cell?_setCell_other _ _ _ _ (by intro e; injection e with e _; exact hbg e.symm)]
      exact k1.cell hbZ (cell_old hbb)
    have hb2 : (w1.setCell ⟨g, o + 2, none⟩ (.int .i64 r1)).heap[g]? = some (.cells (cs.setIfInBounds (o + 2) (.int .i64 r1)) t) := heap_setCell_same _ _ _ _ _ _ hb1
    have ht2 : TyE (w1.setCell ⟨g, o + 2, none⟩ (.int .i64 r1)) X nt := by
      obtain ⟨tb, tc, t1, t2, t3⟩ := ht.on (kA.trans k1)
      refine ⟨tb, tc, t1, t2, fun p hp => ?_⟩
      rw [World.cell?_setCell_other _ _ _ _ (by intro e; injection e with e _; exact htg tb tc t1 e.symm)]
      exact t3 p hp
    obtain ⟨rm1, i1⟩ := hr1 r1 S1 q1
    refine ⟨rfl, hbx, (look92 _ X S1 bb g (o + 3) nt b _ t h1 ht2 hb' hn rm1 i1 dbb hg hb2 d3).mono ?_⟩
    rintro e w' ⟨rfl, r2, S2, w3, q2, k3, rfl, h3⟩
    have hlt2 : w.heap.size < (w1.setCell ⟨g, o + 2, none⟩ (.int .i64 r1)).heap.size := (Array.getElem?_eq_some_iff.1 hbx).1
    refine ⟨rfl, ?_, ?_, rfl, r1, S1, r2, S2, w1, w3, q1, q2, kA.trans k1, k3, rfl, h3⟩
    · rw [heap_setCell_other _ _ _ _ (by show w.heap.size ≠ g; omega), k3.blk w.heap.size hlt2 hnw]; exact hbx
    · rw [World.cell?_setCell_other _ _ _ _ (by intro e; injection e with _ e; omega)]
      exact k3.cell hg d0
  have hc1 : (w.alloc A).cell? ⟨g, o, none⟩ = some (.int .i64 3) := cell_old c0
  simp only [ffm] at g0 g1 g2 g3 g4
  rw [hA] at HLk hc1
  generalize L3P w X S g o (a : Int) (b : Int) = G at HLk ⊢
  clear hff hA h ht hr hI hr1 hbb hb hbA kA c2 c3 hbZ hbg htg
  go_enter Tryd.func84, Tryd.ntmps84
  go_wp2_with (go_at_call 92; fail)
  refine HLk.out.mono ?_
  rintro e w2 ⟨rfl, hb2, hL2⟩
  have HL2 : Hid (Calls Tryd.prog 92 #[.pointer (some ⟨g, o + 3, none⟩), ptr bb] w2 (fun e w' => e = .returned (.tuple #[]) ∧ w'.heap[w.heap.size]? = some (.cells #[.bool true, .bool true, .bool false, .bool true, .bool true] 145) ∧ w'.cell? ⟨g, o, none⟩ = some (.int .i64 3) ∧ G (.returned (.tuple #[])) w')) := hL2
  have x1 := cell_at (i := 1) hb2 rfl
  clear hb2 hL2 g0 g1 g2 g3 g4 hc1 c0
  go_wp2_with (go_at_call 92; fail)
  refine HL2.out.mono ?_
  rintro e w3 ⟨rfl, hb3, y0, hG⟩
  have HX : Hid (G (.returned (.tuple #[])) w3) := hG
  have z2 := cell_at (i := 2) hb3 rfl
  clear hb3 hG x1
  go_wp2
  go_end0
  exact HX.out
theorem sets_row (b : Nat) : ∀ (vs : List Value) (o : Nat) (w : World) (cs : Array Value) (t : TypeId), w.heap[b]? = some (.cells cs t) → o + vs.length ≤ cs.size → ∃ cs' : Array Value, (w.setCells b o vs).heap[b]? = some (.cells cs' t) ∧ cs'.size = cs.size ∧ (∀ j, j < vs.length → cs'[o + j]? = vs[j]?) ∧ (∀ p, (p < o ∨ o + vs.length ≤ p) → cs'[p]? = cs[p]?) ∧ Ko [b] w (w.setCells b o vs)
  | [], o, w, cs, t, h, hl => ⟨cs, h, rfl, fun j hj => by simp at hj, fun p _ => rfl, Ko.refl _ _⟩
  | v :: vs, o, w, cs, t, h, hl => by
    simp only [List.length_cons] at hl
    have h1 : (w.setCell ⟨b, o, none⟩ v).heap[b]? = some (.cells (cs.setIfInBounds o v) t) := heap_setCell_same _ _ _ _ _ _ h
    have hk : Ko [b] w (w.setCell ⟨b, o, none⟩ v) := ⟨rfl, rfl, rfl, by simp, fun k hk hz => heap_setCell_other _ _ _ _ (by simpa using hz)⟩
    obtain ⟨cs', a1, a2, a3, a4, a5⟩ := sets_row b vs (o + 1) (w.setCell ⟨b, o, none⟩ v) _ t h1 (by simp; omega)
    refine ⟨cs', a1, by rw [a2]; simp, fun j hj => ?_, fun p hp => ?_, hk.trans a5⟩
    · cases j with
      | zero =>
        rw [Nat.add_zero, a4 o (by omega), Array.getElem?_setIfInBounds, if_pos rfl, if_pos (by omega)]
        rfl
      | succ j =>
        have := a3 j (by simpa using hj)
        rw [show o + (j + 1) = o + 1 + j by omega, this]
        rfl
    · simp only [List.length_cons] at hp
      rw [a4 p (by omega), Array.getElem?_setIfInBounds, if_neg (by omega)]
theorem app_at2 (W : World) (sb k sc ab : Nat) (news : List Value) (hnl : news.length = 10) (hnews : ∀ j u, news[j]? = some u → W.cell? ((⟨ab, 0, none⟩ : Addr).add j) = some u) (h1 : ∀ u ∈ news, u.oneCell' = true) (hroom : k + 1 ≤ sc) (cs : Array Value) (hb : W.heap[sb]? = some (.cells cs 44)) (hin : cs.size = sc * 10) :
    (Builtin.append_ #[33, 33] 33 #[.slice (some ⟨sb, 0, none⟩) k sc, .slice (some ⟨ab, 0, none⟩) 1 1]).run Tryd.prog W = .ok (.slice (some ⟨sb, 0, none⟩) (k + 1) sc) (W.setCells sb (k * 10) news) := by
  obtain ⟨i, hi, hz0, hz1, hz2⟩ := info_parts info44
  have := run_append_room_cells (P := Tryd.prog) W 33 33 44 i und33 hi sb 0 k sc ⟨ab, 0, none⟩ 1 1 news (by rw [hz1, hnl]) hnews h1 hroom (fun j hj => ?_) (fun j hj => ?_)
  · rw [hz1, Nat.zero_add] at this
    exact this
  · rw [hz1, Nat.zero_add]
    have hlt : k * 10 + j < cs.size := by omega
    rw [cell_at hb (Array.getElem?_eq_getElem hlt)]
    rfl
  · rw [hz1, Nat.zero_add]
    exact row_free hb _
theorem zero44 : ∀ w : World, (zeroValue 44).run Tryd.prog w = .ok (.agg #[.int .i64 0, .int .i64 0, .int .i64 0, .int .i64 0, .int .i64 0, .int .i64 0, .string ⟨#[]⟩, .int .i64 0, .string ⟨#[]⟩, .slice none 0 0]) w := fun w => by kernel_rfl
theorem clear_rows (W : World) (sb k m c : Nat) (cs : Array Value) (h : W.heap[sb]? = some (.cells cs 44)) (hle : (k + m) * 10 ≤ cs.size) : ∃ W' cs', (∀ ty, (Builtin.clear_ #[33] ty #[.slice (some ⟨sb, k * 10, none⟩) m c]).run Tryd.prog W = .ok (.tuple #[]) W') ∧ W'.heap[sb]? = some (.cells cs' 44) ∧ cs'.size = cs.size ∧ (∀ p, p < k * 10 → cs'[p]? = cs[p]?) ∧ Ko [sb] W W' := by
  rcases Nat.eq_zero_or_pos m with rfl | hm
  · exact ⟨W, cs, fun ty => clear_none W ty _ c, h, rfl, fun p _ => rfl, Ko.refl _ _⟩
  · obtain ⟨vs, hvs⟩ : ∃ vs : List Value, vs = (Builtin.zeroCells (Value.agg #[.int .i64 0, .int .i64 0, .int .i64 0, .int .i64 0, .int .i64 0, .int .i64 0, .string ⟨#[]⟩, .int .i64 0, .string ⟨#[]⟩, .slice none 0 0]).cells m).toList := ⟨_, rfl⟩
    have hsz : (Value.agg #[.int .i64 0, .int .i64 0, .int .i64 0, .int .i64 0, .int .i64 0, .int .i64 0, .string ⟨#[]⟩, .int .i64 0, .string ⟨#[]⟩, .slice none 0 0]).cells.size = 10 := rfl
    have hl : vs.length = m * 10 := by rw [hvs]; simp only [Builtin.zeroCells, Array.length_toList, Array.size_map, Array.size_range]; rw [hsz]
    have h1 : ∀ v ∈ vs, v.oneCell' = true := fun v hv => by
      rw [hvs] at hv
      simp only [Builtin.zeroCells, Array.mem_toList_iff, Array.mem_map] at hv
      obtain ⟨i, _, rfl⟩ := hv
      rw [hsz]
      have h10 : i % 10 < 10 := Nat.mod_lt _ (by omega)
      obtain ⟨q, hq⟩ : ∃ q, i % 10 = q := ⟨_, rfl⟩
      rw [hq] at h10 ⊢
      match q, h10 with
      | 0, _ => rfl
      | 1, _ => rfl
      | 2, _ => rfl
      | 3, _ => rfl
      | 4, _ => rfl
      | 5, _ => rfl
      | 6, _ => rfl
      | 7, _ => rfl
      | 8, _ => rfl
      | 9, _ => rfl
    obtain ⟨cs', a1, a2, a3, a4, a5⟩ := sets_row sb vs (k * 10) W cs 44 h (by rw [hl]; omega)
    refine ⟨_, cs', fun ty => ?_, a1, a2, fun p hp => a4 p (.inl hp), a5⟩
    have hst := run_storeCells_cells (P := Tryd.prog) sb (k * 10) vs 0 W (fun j hj => by
      have hlt : k * 10 + j < cs.size := by rw [hl] at hj; omega
      rw [Nat.add_zero, cell_at h (Array.getElem?_eq_getElem hlt)]
      rfl) (fun j hj => row_free h _) h1
    rw [Nat.add_zero] at hst
    obtain ⟨m, rfl⟩ : ∃ m', m = m' + 1 := ⟨m - 1, by omega⟩
    rw [hvs] at hst
    simp [Builtin.clear_, run_underlying und33, zero44, hst]
    rw [hvs]
structure KoX (b0 : Nat) (w w' : World) : Prop where
  size : w.heap.size ≤ w'.heap.size
  blk : ∀ b, b0 ≤ b → b < w.heap.size → w'.heap[b]? = w.heap[b]?
structure WoR (w : World) (sb ns sc : Nat) (l kept : List Ms) (i : Nat) : Prop where
  ex : ∃ cur : Array Value, w.heap[sb]? = some (.cells cur 44) ∧ cur.size = sc * 10 ∧ (∀ j s, kept[j]? = some s → ∀ o, o < 10 → cur[j * 10 + o]? = (sC s)[o]?) ∧ ∀ j s, i ≤ j → l[j]? = some s → ∀ o, o < 10 → cur[j * 10 + o]? = (sC s)[o]?
theorem WoR.kept {w w' : World} {sb ns sc : Nat} {l kept : List Ms} {i : Nat} (h : WoR w sb ns sc l kept i) (hk : w'.heap[sb]? = w.heap[sb]?) : WoR w' sb ns sc l kept i := by
  obtain ⟨cur, a, b⟩ := h
  exact ⟨cur, hk.trans a, b⟩
theorem rowC_take {cur : Array Value} {kept : List Ms} (h : ∀ j s, kept[j]? = some s → ∀ o, o < 10 → cur[j * 10 + o]? = (sC s)[o]?) (hs : kept.length * 10 ≤ cur.size) : cur.toList.take (kept.length * 10) = rowC kept := by
  apply List.ext_getElem?
  intro p
  by_cases hp : p < kept.length * 10
  · rw [List.getElem?_take, if_pos hp]
    obtain ⟨j, o, ho, rfl⟩ : ∃ j o, o < 10 ∧ p = j * 10 + o := ⟨p / 10, p % 10, Nat.mod_lt _ (by omega), by omega⟩
    have hj : j < kept.length := by omega
    have e := List.getElem?_eq_getElem hj
    rw [rowC_get kept j _ e o ho, ← h j _ e o ho]
    simp
  · rw [List.getElem?_eq_none (by rw [List.length_take]; simp; omega), List.getElem?_eq_none (by rw [rowC_len]; omega)]
end Go.Proofs.YtjmbjpimabnohaaDoor.Mid
