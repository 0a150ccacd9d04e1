/- GD -/
import Derived.Test.YtjmbjpimabnohaaDoorK26
namespace Go.Proofs.YtjmbjpimabnohaaDoor.Mid
set_option linter.unusedVariables false
set_option linter.unusedSimpArgs false
open Go Go.RowKit
structure SpH (w : World) (X : Fx) (S : Fs) (nt g o m : Nat) (cs : Array Value) (s : Ms) (env : Int → Int) (d : Int) : Prop where
  fc : FcM w X S
  inv : Ink S env d m
  ty : TyE w X nt
  tg : ∀ tb tc, X.tv = .slice (some ⟨tb, 0, none⟩) nt tc → tb ≠ g
  ff : FfE w
  two : 2 ∉ g :: X.Z
  gz : g ∉ X.Z
  row : w.heap[g]? = some (.cells cs 44)
  sz : o + 10 ≤ cs.size
  cells : ∀ i, i < 10 → cs[o + i]? = (sC s)[i]?
  mm : m + 6 < 50000
  nt6 : nt ≤ 1000000
abbrev bx132 (X : Fx) : Obj := .cells #[ptr X.kb] 132
theorem va_i64 {S : Fs} {env : Int → Int} {d : Int} {m : Nat} (h : Ink S env d m) (hm : m + 6 < 50000) {p : Int} (h0 : 0 ≤ p) : ∀ v S0, VaR S p v S0 → I64 v := fun v S0 hr => by
  obtain ⟨i, a, b, _⟩ := va_in (d' := max d (p + 1)) h hr h0 (by omega) (by omega)
  have := i.c
  exact ⟨by omega, by omega⟩
theorem step_1 (w : World) (X : Fx) (S : Fs) (nt g o m : Nat) (cs : Array Value) (s : Ms) (env : Int → Int) (d : Int) (h : SpH w X S nt g o m cs s env d) (hc : s.code = 1) (h0 : 0 ≤ s.dst) (h1 : s.dst < nt) (hd : d ≤ s.dst) (hn : I64 (evS env s)) :
    Calls Tryd.prog 79 #[ptr X.kb, .pointer (some ⟨g, o, none⟩)] w (StP w X g o cs env (m + 6) s.dst (evS env s)) := by
  obtain ⟨dst, hdst⟩ : ∃ dst : Nat, s.dst = (dst : Int) := ⟨s.dst.toNat, by omega⟩
  have hev : evS env s = s.n := by unfold evS; rw [if_pos hc]
  have hgl : g < w.heap.size := (Array.getElem?_eq_some_iff.1 h.row).1
  have hkl : X.kb < w.heap.size := (Array.getElem?_eq_some_iff.1 h.fc.blk).1
  have hbA := al_bel w (bx132 X)
  have hx : w.heap[g]? = some (.cells cs 44) := h.row
  rw [hdst] at h1 hd ⊢
  refine (step_w w X S nt g o dst (m + 4) cs 1 (evS env s) d env (.inl rfl) (by omega) h.nt6 hd (by have := h.mm; omega) h.sz h.gz h.two hgl h.ty h.tg h.ff h.fc (fun w1 => Below w.heap.size w w1 ∧ w1.heap[w.heap.size]? = some (bx132 X)) ?_ ?_)
  · refine (reads92_1 (w.alloc (bx132 X)) w.heap.size g o (h.ff.below hbA) (cell_old (cell_at hx (by have := h.cells 0 (by omega); rw [Nat.add_zero] at this; rw [this]; show some (Value.int .i64 s.code) = _; rw [hc])))).mono ?_
    rintro e w1 ⟨rfl, hb⟩
    have hb1 : Below w.heap.size w w1 := hbA.trans (hb.mono (by simp))
    have hx1 : w1.heap[w.heap.size]? = some (bx132 X) := by rw [hb.block _ (by simp), heap_alloc_last]
    refine ⟨rfl, ⟨hb1, hx1⟩, ?_, cell_at (i := 0) hx1 rfl, Ko.of_below hb1⟩
    rw [hb1.cell (p := ⟨g, o, none⟩) hgl]
    exact cell_at hx (by have := h.cells 0 (by omega); rw [Nat.add_zero] at this; rw [this]; show some (Value.int .i64 s.code) = _; rw [hc])
  · rintro w1 ⟨hb1, hx1⟩
    have hrow : w1.heap[g]? = some (.cells cs 44) := by rw [hb1.block g hgl]; exact hx
    have h00 := h.cells 0 (by omega)
    rw [Nat.add_zero] at h00
    refine (result_1 w1 X S g o s.n (h.fc.below hb1) (h.inv.rm (by have := h.mm; omega)) (by rw [← hev]; exact hn) (cell_at hrow (by rw [h00]; show some (Value.int .i64 s.code) = _; rw [hc])) (cell_at hrow (h.cells 5 (by omega)))).mono ?_
    rintro e w2 ⟨v, S1, r, rfl, h2, k2⟩
    obtain ⟨i1, a, b, c, _, _⟩ := nu_in h.inv r
    refine ⟨v, S1, rfl, ⟨h2, i1.mono hd (by omega), ⟨cs, ?_, rfl, fun p _ => rfl, ?_, ?_⟩, ?_, (Ko.of_below hb1).trans (k2.wide (fun b hb => List.mem_cons_of_mem _ hb))⟩, by rw [hev]; exact c, a, b⟩
    · rw [k2.blk g (Array.getElem?_eq_some_iff.1 hrow).1 h.gz]; exact hrow
    · rw [h00]; show some (Value.int .i64 s.code) = _; rw [hc]
    · rw [h.cells 1 (by omega)]; show some (Value.int .i64 s.dst) = _; rw [hdst]
    · rw [k2.blk _ (Array.getElem?_eq_some_iff.1 hx1).1 (h.fc.new (Nat.le_refl _))]; exact hx1
theorem step_2 (w : World) (X : Fx) (S : Fs) (nt g o m : Nat) (cs : Array Value) (s : Ms) (env : Int → Int) (d : Int) (h : SpH w X S nt g o m cs s env d) (hc : s.code = 2) (h0 : 0 ≤ s.dst) (h1 : s.dst < nt) (hd : d ≤ s.dst) (ha0 : 0 ≤ s.a) (ha : s.a < s.dst) :
    Calls Tryd.prog 79 #[ptr X.kb, .pointer (some ⟨g, o, none⟩)] w (StP w X g o cs env (m + 6) s.dst (evS env s)) := by
  obtain ⟨dst, hdst⟩ : ∃ dst : Nat, s.dst = (dst : Int) := ⟨s.dst.toNat, by omega⟩
  obtain ⟨a, haa⟩ : ∃ a : Nat, s.a = (a : Int) := ⟨s.a.toNat, by omega⟩
  have hev : evS env s = env (a : Int) := by unfold evS; rw [if_neg (by omega), if_pos hc, haa]
  have hgl : g < w.heap.size := (Array.getElem?_eq_some_iff.1 h.row).1
  have hbA := al_bel w (bx132 X)
  have hx : w.heap[g]? = some (.cells cs 44) := h.row
  have hxA : (w.alloc (bx132 X)).heap[g]? = some (.cells cs 44) := by rw [hbA.block g hgl]; exact hx
  have h00 := h.cells 0 (by omega)
  rw [Nat.add_zero] at h00
  have e0 : cs[o]? = some (.int .i64 2) := by rw [h00]; show some (Value.int .i64 s.code) = _; rw [hc]
  have e1 : cs[o + 1]? = some (.int .i64 (dst : Int)) := by rw [h.cells 1 (by omega)]; show some (Value.int .i64 s.dst) = _; rw [hdst]
  have e2 : cs[o + 2]? = some (.int .i64 (a : Int)) := by rw [h.cells 2 (by omega)]; show some (Value.int .i64 s.a) = _; rw [haa]
  have hnA : w.heap.size ∉ X.Z := h.fc.new (Nat.le_refl _)
  rw [hdst] at h1 hd ha ⊢
  rw [haa] at ha ha0
  refine (step_w w X S nt g o dst (m + 4) cs 2 (evS env s) d env (.inr (.inl rfl)) (by omega) h.nt6 hd (by have := h.mm; omega) h.sz h.gz h.two hgl h.ty h.tg h.ff h.fc (fun w1 => LhP (w.alloc (bx132 X)) X S g (o + 2) (a : Int) (.returned (.tuple #[])) w1) ?_ ?_)
  · refine (reads92_2 (w.alloc (bx132 X)) X S w.heap.size g o nt a cs 44 (h.fc.below hbA) (h.ty.on (Ko.of_below hbA)) (by omega) h.nt6 (h.inv.rm (by have := h.mm; omega)) (va_i64 h.inv h.mm ha0) (cell_at (i := 0) (heap_alloc_last _ _) rfl) h.gz hxA (h.ff.below hbA) (cell_at hxA e0) (cell_at hxA e2)).mono ?_
    rintro e w1 ⟨rfl, r, S1, w0, r1, k0, rfl, hf⟩
    refine ⟨rfl, ⟨rfl, r, S1, w0, r1, k0, rfl, hf⟩, ?_, ?_, ?_⟩
    · rw [World.cell?_setCell_other _ _ _ _ (by intro e; injection e with _ e; omega)]
      exact k0.cell h.gz (cell_at hxA e0)
    · rw [World.cell?_setCell_other _ _ _ _ (by intro e; injection e with e _; omega)]
      exact k0.cell hnA (cell_at (i := 0) (heap_alloc_last _ _) rfl)
    · exact (Ko.of_below hbA).trans ((k0.wide (fun b hb => List.mem_cons_of_mem _ hb)).trans ⟨rfl, rfl, rfl, by simp [World.setCell], fun b hb hz => heap_setCell_other _ _ _ _ (fun e => hz (by rw [e]; simp))⟩)
  · rintro w1 ⟨-, r, S1, w0, r1, k0, rfl, hf⟩
    obtain ⟨i1, q1, q2, q3, ⟨v, q4, q5, q6, q7⟩, q8⟩ := ho_in (d' := (dst : Int)) h.inv r1 ha0 ha hd
    obtain ⟨rn, hrn⟩ : ∃ rn : Nat, r = (rn : Int) := ⟨r.toNat, by omega⟩
    subst hrn
    have hr0 : w0.heap[g]? = some (.cells cs 44) := by rw [k0.blk g (Array.getElem?_eq_some_iff.1 hxA).1 h.gz]; exact hxA
    have hr1 := heap_setCell_same (w := w0) g (o + 2) cs 44 (.int .i64 (rn : Int)) hr0
    have hko : Ko (g :: X.Z) w (w0.setCell ⟨g, o + 2, none⟩ (.int .i64 (rn : Int))) := (Ko.of_below hbA).trans ((k0.wide (fun b hb => List.mem_cons_of_mem _ hb)).trans ⟨rfl, rfl, rfl, by simp [World.setCell], fun b hb hz => heap_setCell_other _ _ _ _ (fun e => hz (by rw [e]; simp))⟩)
    have hsz := h.sz
    refine (result_2 _ X S1 g o nt rn hf (h.ty.on2 h.tg hko) (by omega) h.nt6 (i1.rm (by have := h.mm; omega)) (cell_at hr1 (by rw [Array.getElem?_setIfInBounds, if_neg (by omega)]; exact e0)) (cell_at hr1 (by rw [Array.getElem?_setIfInBounds, if_pos rfl, if_pos (by omega)]))).mono ?_
    rintro e w2 ⟨v2, S2, r2, rfl, h2, k2⟩
    rcases r2 with ⟨r2, rfl⟩ | ⟨r2, _⟩
    · rw [q4] at r2
      injection r2 with r2
      subst r2
      refine ⟨v, S2, rfl, ⟨h2, i1.mono (Int.le_refl _) (by omega), ⟨_, by rw [k2.blk g (Array.getElem?_eq_some_iff.1 hr1).1 h.gz]; exact hr1, by simp, fun p hp => ?_, ?_, ?_⟩, ?_, hko.trans (k2.wide (fun b hb => List.mem_cons_of_mem _ hb))⟩, by rw [hev]; exact q7, q5, q6⟩
      · rw [Array.getElem?_setIfInBounds, if_neg (by omega)]
      · rw [Array.getElem?_setIfInBounds, if_neg (by omega)]; exact e0
      · rw [Array.getElem?_setIfInBounds, if_neg (by omega)]; exact e1
      · have hlt : w.heap.size < w0.heap.size := by have := k0.size; simp at this; omega
        rw [k2.blk _ (by simpa [World.setCell] using hlt) hnA, heap_setCell_other _ _ _ _ (by show w.heap.size ≠ g; omega), k0.blk _ (by simp) hnA, heap_alloc_last]
    · rw [q4] at r2; cases r2
theorem step_3 (w : World) (X : Fx) (S : Fs) (nt g o m : Nat) (cs : Array Value) (s : Ms) (env : Int → Int) (d : Int) (h : SpH w X S nt g o m cs s env d) (hc : s.code = 3) (h0 : 0 ≤ s.dst) (h1 : s.dst < nt) (hd : d ≤ s.dst) (ha0 : 0 ≤ s.a) (ha : s.a < s.dst) (hb0 : 0 ≤ s.b) (hb : s.b < s.dst) (h2 : (bothV s.op (env s.a) (env s.b)).2 = 0) (hn : I64 (evS env s)) :
    Calls Tryd.prog 79 #[ptr X.kb, .pointer (some ⟨g, o, none⟩)] w (StP w X g o cs env (m + 6) s.dst (evS env s)) := by
  obtain ⟨dst, hdst⟩ : ∃ dst : Nat, s.dst = (dst : Int) := ⟨s.dst.toNat, by omega⟩
  obtain ⟨a, haa⟩ : ∃ a : Nat, s.a = (a : Int) := ⟨s.a.toNat, by omega⟩
  obtain ⟨b, hbb⟩ : ∃ b : Nat, s.b = (b : Int) := ⟨s.b.toNat, by omega⟩
  have hev : evS env s = (bothV s.op (env (a : Int)) (env (b : Int))).1 := by unfold evS; rw [if_neg (by omega), if_neg (by omega), haa, hbb]
  rw [haa, hbb] at h2
  have hgl : g < w.heap.size := (Array.getElem?_eq_some_iff.1 h.row).1
  have hbA := al_bel w (bx132 X)
  have hx : w.heap[g]? = some (.cells cs 44) := h.row
  have hxA : (w.alloc (bx132 X)).heap[g]? = some (.cells cs 44) := by rw [hbA.block g hgl]; exact hx
  have h00 := h.cells 0 (by omega)
  rw [Nat.add_zero] at h00
  have e0 : cs[o]? = some (.int .i64 3) := by rw [h00]; show some (Value.int .i64 s.code) = _; rw [hc]
  have e1 : cs[o + 1]? = some (.int .i64 (dst : Int)) := by rw [h.cells 1 (by omega)]; show some (Value.int .i64 s.dst) = _; rw [hdst]
  have e2 : cs[o + 2]? = some (.int .i64 (a : Int)) := by rw [h.cells 2 (by omega)]; show some (Value.int .i64 s.a) = _; rw [haa]
  have e3 : cs[o + 3]? = some (.int .i64 (b : Int)) := by rw [h.cells 3 (by omega)]; show some (Value.int .i64 s.b) = _; rw [hbb]
  have e6 : cs[o + 6]? = some (.string ⟨s.op.toArray⟩) := h.cells 6 (by omega)
  have hnA : w.heap.size ∉ X.Z := h.fc.new (Nat.le_refl _)
  have hsz := h.sz
  have hmm := h.mm
  rw [hdst] at h1 hd ha hb ⊢
  rw [haa] at ha ha0
  rw [hbb] at hb hb0
  have hsC : ∀ (w : World) (k : Nat) (v : Value), Ko (g :: X.Z) w (w.setCell ⟨g, k, none⟩ v) := fun w k v => ⟨rfl, rfl, rfl, by simp [World.setCell], fun b hb hz => heap_setCell_other _ _ _ _ (fun e => hz (by rw [e]; simp))⟩
  refine (step_w w X S nt g o dst (m + 4) cs 3 (evS env s) d env (.inr (.inr rfl)) (by omega) h.nt6 hd (by omega) h.sz h.gz h.two hgl h.ty h.tg h.ff h.fc (fun w1 => L3P (w.alloc (bx132 X)) X S g o (a : Int) (b : Int) (.returned (.tuple #[])) w1) ?_ ?_)
  · refine (reads92_3 (w.alloc (bx132 X)) X S w.heap.size g o nt a b cs 44 (h.fc.below hbA) (h.ty.on (Ko.of_below hbA)) (by omega) (by omega) h.nt6 (h.inv.rm (by omega)) (va_i64 h.inv h.mm ha0) (fun r S1 hr => ?_) (cell_at (i := 0) (heap_alloc_last _ _) rfl) hnA (by omega) h.tg h.gz hxA (h.ff.below hbA) (cell_at hxA e0) (cell_at hxA e2) (cell_at hxA e3)).mono ?_
    · obtain ⟨i1, _⟩ := ho_in (d' := (dst : Int)) h.inv hr ha0 ha hd
      refine ⟨i1.rm (by omega), fun v S0 hv => ?_⟩
      obtain ⟨i, x, y, _⟩ := va_in (d' := (dst : Int)) i1 hv hb0 hb (Int.le_refl _)
      have := i.c
      exact ⟨by omega, by omega⟩
    · rintro e w1 ⟨rfl, r, S1, r2, S2, w0, w3, q1, q2, k0, k3, rfl, hf⟩
      refine ⟨rfl, ⟨rfl, r, S1, r2, S2, w0, w3, q1, q2, k0, k3, rfl, hf⟩, ?_, ?_, ?_⟩
      · rw [World.cell?_setCell_other _ _ _ _ (by intro e; injection e with _ e; omega)]
        refine k3.cell h.gz ?_
        rw [World.cell?_setCell_other _ _ _ _ (by intro e; injection e with _ e; omega)]
        exact k0.cell h.gz (cell_at hxA e0)
      · rw [World.cell?_setCell_other _ _ _ _ (by intro e; injection e with e _; omega)]
        refine k3.cell hnA ?_
        rw [World.cell?_setCell_other _ _ _ _ (by intro e; injection e with e _; omega)]
        exact k0.cell hnA (cell_at (i := 0) (heap_alloc_last _ _) rfl)
      · exact (Ko.of_below hbA).trans (((k0.wide (fun b hb => List.mem_cons_of_mem _ hb)).trans (hsC _ _ _)).trans ((k3.wide (fun b hb => List.mem_cons_of_mem _ hb)).trans (hsC _ _ _)))
  · rintro w1 ⟨-, r, S1, r2, S2, w0, w3, q1, q2, k0, k3, rfl, hf⟩
    obtain ⟨i1, p1, p2, p3, ⟨va, p4, p5, p6, p7⟩, p8⟩ := ho_in (d' := (dst : Int)) h.inv q1 ha0 ha hd
    obtain ⟨i2, u1, u2, u3, ⟨vb, u4, u5, u6, u7⟩, u8⟩ := ho_in (d' := (dst : Int)) i1 q2 hb0 hb (Int.le_refl _)
    obtain ⟨rn, hrn⟩ : ∃ rn : Nat, r = (rn : Int) := ⟨r.toNat, by omega⟩
    obtain ⟨rm, hrm⟩ : ∃ rm : Nat, r2 = (rm : Int) := ⟨r2.toNat, by omega⟩
    subst hrn
    subst hrm
    have p9 := u8 _ _ p4
    have n9 := (i2.hold _ _ p9).2.2.1
    rw [p1] at n9
    have c9 := i2.c
    have v9 := (i2.hold _ _ p9).2.1
    have hr0 : w0.heap[g]? = some (.cells cs 44) := by rw [k0.blk g (Array.getElem?_eq_some_iff.1 hxA).1 h.gz]; exact hxA
    have hr1 := heap_setCell_same (w := w0) g (o + 2) cs 44 (.int .i64 (rn : Int)) hr0
    have hr3 : w3.heap[g]? = some (.cells (cs.setIfInBounds (o + 2) (.int .i64 (rn : Int))) 44) := by rw [k3.blk g (Array.getElem?_eq_some_iff.1 hr1).1 h.gz]; exact hr1
    have hr4 := heap_setCell_same (w := w3) g (o + 3) _ 44 (.int .i64 (rm : Int)) hr3
    have hko : Ko (g :: X.Z) w (w3.setCell ⟨g, o + 3, none⟩ (.int .i64 (rm : Int))) := (Ko.of_below hbA).trans (((k0.wide (fun b hb => List.mem_cons_of_mem _ hb)).trans (hsC _ _ _)).trans ((k3.wide (fun b hb => List.mem_cons_of_mem _ hb)).trans (hsC _ _ _)))
    have g0 : ((cs.setIfInBounds (o + 2) (.int .i64 (rn : Int))).setIfInBounds (o + 3) (.int .i64 (rm : Int)))[o]? = some (.int .i64 3) := by rw [Array.getElem?_setIfInBounds, if_neg (by omega), Array.getElem?_setIfInBounds, if_neg (by omega)]; exact e0
    have g1 : ((cs.setIfInBounds (o + 2) (.int .i64 (rn : Int))).setIfInBounds (o + 3) (.int .i64 (rm : Int)))[o + 1]? = some (.int .i64 (dst : Int)) := by rw [Array.getElem?_setIfInBounds, if_neg (by omega), Array.getElem?_setIfInBounds, if_neg (by omega)]; exact e1
    have g2 : ((cs.setIfInBounds (o + 2) (.int .i64 (rn : Int))).setIfInBounds (o + 3) (.int .i64 (rm : Int)))[o + 2]? = some (.int .i64 (rn : Int)) := by rw [Array.getElem?_setIfInBounds, if_neg (by omega), Array.getElem?_setIfInBounds, if_pos rfl, if_pos (by omega)]
    have g3 : ((cs.setIfInBounds (o + 2) (.int .i64 (rn : Int))).setIfInBounds (o + 3) (.int .i64 (rm : Int)))[o + 3]? = some (.int .i64 (rm : Int)) := by rw [Array.getElem?_setIfInBounds, if_pos rfl, if_pos (by simp; omega)]
    have g6 : ((cs.setIfInBounds (o + 2) (.int .i64 (rn : Int))).setIfInBounds (o + 3) (.int .i64 (rm : Int)))[o + 6]? = some (.string ⟨s.op.toArray⟩) := by rw [Array.getElem?_setIfInBounds, if_neg (by omega), Array.getElem?_setIfInBounds, if_neg (by omega)]; exact e6
    refine (result_3 _ X S2 g o nt rn rm ⟨s.op.toArray⟩ va vb (env (a : Int)) (env (b : Int)) (evS env s) hf (h.ty.on2 h.tg hko) (by omega) (by omega) h.nt6 (i2.rm (by omega)) h.gz (cell_at hr4 g0) (cell_at hr4 g2) (cell_at hr4 g3) (cell_at hr4 g6) p9 u4 ⟨by omega, by omega⟩ ⟨by omega, by omega⟩ n9 u7 (by rw [hev]; exact Prod.ext rfl h2) hn).mono ?_
    rintro e w2 ⟨v, S3, r3, rfl, h3, k5⟩
    obtain ⟨i3, x1, x2, x3, _, _⟩ := nu_in i2 r3
    refine ⟨v, S3, rfl, ⟨h3, i3.mono (Int.le_refl _) (by omega), ⟨_, by rw [k5.blk g (Array.getElem?_eq_some_iff.1 hr4).1 h.gz]; exact hr4, by simp, fun p hp => ?_, g0, g1⟩, ?_, hko.trans (k5.wide (fun b hb => List.mem_cons_of_mem _ hb))⟩, x3, x1, x2⟩
    · rw [Array.getElem?_setIfInBounds, if_neg (by omega), Array.getElem?_setIfInBounds, if_neg (by omega)]
    · have hlt : w.heap.size < w0.heap.size := by have := k0.size; simp at this; omega
      have hlt3 : w.heap.size < w3.heap.size := by have := k3.size; simp [World.setCell] at this; omega
      rw [k5.blk _ (by simpa [World.setCell] using hlt3) hnA, heap_setCell_other _ _ _ _ (by show w.heap.size ≠ g; omega), k3.blk _ (by simpa [World.setCell] using hlt) hnA, heap_setCell_other _ _ _ _ (by show w.heap.size ≠ g; omega), k0.blk _ (by simp) hnA, heap_alloc_last]
end Go.Proofs.YtjmbjpimabnohaaDoor.Mid
