/- The document's rightStep, walked. (tools/mksd.py) -/
import Derived.Test.YtjmbjpimabnohaaDoorSC
namespace Go.Proofs.YtjmbjpimabnohaaDoor.Mid
set_option linter.unusedVariables false
set_option linter.unusedSimpArgs false
open Go Go.RowKit

theorem ints_lit {w : World} {b : Nat} {l : List Int} (h : w.heap[b]? = some (.cells (ints l).toArray 3)) (hl : l.length ≤ 1000000) (hI : ∀ x ∈ l, I64 x) : IntsAt w (.slice (some ⟨b, 0, none⟩) l.length l.length) l := by
  refine ⟨_, _, rfl, hl, hI, .inr ⟨b, 0, rfl, fun j x hx => ?_⟩⟩
  rw [Nat.zero_add]
  refine cell_at h ?_
  simp [hx]
/-- What is asked of two rows that were made for it. -/
def LtP (b : Bool) (W : World) (e : Ending) (w' : World) : Prop := e = .returned (.bool b) ∧ Below W.heap.size W w'
theorem typed_lit (W : World) (F : Mf) (y : ByteArray) (pa : Int) (qt : Option Addr) (ct : Nat) (qs : Option Addr) (ns cs : Nat) (ps ts : List Int) (ht : IntsAt W (.slice qt F.types.length ct) F.types) (h1 : ps.length ≤ 1000000 ∧ ∀ x ∈ ps, I64 x) (h2 : ts.length ≤ 1000000 ∧ ∀ x ∈ ts, I64 x) :
    Calls Tryd.prog 38 #[fnV y pa qt F.types.length ct (.slice qs ns cs), .slice (some ⟨W.heap.size, 0, none⟩) ps.length ps.length, .slice (some ⟨W.heap.size + 1, 0, none⟩) ts.length ts.length] ((W.alloc (.cells (ints ps).toArray 3)).alloc (.cells (ints ts).toArray 3)) (LtP (typedB F ps ts) W) := by
  have hb1 := al_bel2 W (.cells (ints ps).toArray 3)
  have hb2 := al_bel2 (W.alloc (.cells (ints ps).toArray 3)) (.cells (ints ts).toArray 3)
  have hb : Below W.heap.size W ((W.alloc (.cells (ints ps).toArray 3)).alloc (.cells (ints ts).toArray 3)) := hb1.trans (hb2.mono (by simp))
  refine (typed_any _ F y pa qt ct qs ns cs _ _ ps ts (ht.below hb) (ints_lit ?_ h1.1 h1.2) (ints_lit ?_ h2.1 h2.2)).mono ?_
  · rw [row_eq_alloc (by simp)]
    exact heap_alloc_last _ _
  · have := heap_alloc_last (W.alloc (.cells (ints ps).toArray 3)) (.cells (ints ts).toArray 3)
    simpa using this
  · rintro e w' ⟨rfl, h⟩
    exact ⟨rfl, hb.trans (h.mono hb.size)⟩
theorem i64k : I64 1 ∧ I64 2 := by decide
/-- How often each label is there, in memory. -/
def LabC (w : World) (lb : Nat) (l : List Ms) : Prop := lb < w.heap.size ∧ ∀ W, W.heap[lb]? = w.heap[lb]? → ∀ x, I64 x → (Instr.lookup 69 (.map (some lb)) (.int .i64 x) false).run Tryd.prog W = .ok (.int .i64 (cntL l x : Int)) W
/-- Where a name's function is in its row. -/
def OfE (w : World) (fs : By → Option Mf) (ob : Nat) (ql : Option Addr) (nl cl : Nat) : Prop := ob < w.heap.size ∧ ∀ nm : By, nm.length ≤ 9223372036854775807 → 
  (fs nm = none ∧ ∃ k, ∀ W, W.heap[ob]? = w.heap[ob]? → (Instr.lookup 66 (.map (some ob)) (.string ⟨nm.toArray⟩) true).run Tryd.prog W = .ok (.tuple #[.int .i64 k, .bool false]) W) ∨
  (∃ g p j G, ql = some ⟨g, p, none⟩ ∧ j < nl ∧ nl ≤ cl ∧ fs nm = some G ∧ FnAt w g (p + j * 4) G ∧ (0 ≤ G.params ∧ G.params ≤ G.types.length) ∧ (∃ qG cG, w.cell? ⟨g, p + j * 4 + 2, none⟩ = some (.slice qG G.types.length cG) ∧ G.types.length ≤ cG) ∧ ∀ W, W.heap[ob]? = w.heap[ob]? → (Instr.lookup 66 (.map (some ob)) (.string ⟨nm.toArray⟩) true).run Tryd.prog W = .ok (.tuple #[.int .i64 (j : Int), .bool true]) W)
theorem al_first {w : World} {A B : Obj} : ((w.alloc A).alloc B).heap[w.heap.size]? = some A := by rw [row_eq_alloc (by simp)]; exact heap_alloc_last _ _
theorem al_last {w : World} {A B : Obj} : ((w.alloc A).alloc B).heap[w.heap.size + 1]? = some B := by
  have := heap_alloc_last (w.alloc A) B
  simpa using this
set_option maxRecDepth 100000 in
theorem slice32 (W : World) (q : Option Addr) (n c k : Nat) (h : k ≤ c) : (Instr.slice 32 (.slice q n c) none (some (.int .i64 (k : Int))) none).run Tryd.prog W = .ok (.slice q k c) W := by
  have := run_slice_h (P := Tryd.prog) W 32 q n c (by kernel_rfl) .i64 (k : Int) (by omega) (by omega)
  rw [this]
  simp [go_sem, sliced]
theorem ints_take {w : World} {q : Option Addr} {c k : Nat} {l : List Int} (h : IntsAt w (.slice q l.length c) l) (hk : k ≤ l.length) : IntsAt w (.slice q k c) (l.take k) := by
  obtain ⟨q', c', e, h1, h2, h3⟩ := h
  injection e with e1 e2 e3
  subst e1 e3
  refine ⟨q, c, by rw [List.length_take, Nat.min_eq_left hk], by rw [List.length_take]; omega, fun x hx => h2 x (List.mem_of_mem_take hx), ?_⟩
  rcases h3 with h3 | ⟨g, o, e, h3⟩
  · left; rw [h3]; simp
  · right
    refine ⟨g, o, e, fun j x hx => h3 j x ?_⟩
    rw [List.getElem?_take] at hx
    split at hx
    · exact hx
    · cases hx
/-- A step's parts. -/
structure StV (w : World) (s : Ms) (y6 y8 : ByteArray) (qa : Option Addr) (na ca : Nat) : Prop where
  op : y6.data.toList = s.op
  name : y8 = ⟨s.name.toArray⟩
  args : IntsAt w (.slice qa na ca) s.args
  len : na = s.args.length
  i1 : I64 s.code ∧ I64 s.dst ∧ I64 s.a ∧ I64 s.b ∧ I64 s.c ∧ I64 s.n ∧ I64 s.label
  i2 : s.op.length ≤ 1000000 ∧ s.name.length ≤ 9223372036854775807
abbrev stA (s : Ms) (y6 y8 : ByteArray) (qa : Option Addr) (na ca : Nat) : Array Value := #[.int .i64 s.code, .int .i64 s.dst, .int .i64 s.a, .int .i64 s.b, .int .i64 s.c, .int .i64 s.n, .string y6, .int .i64 s.label, .string y8, .slice qa na ca]
set_option maxRecDepth 100000 in
set_option maxHeartbeats 8000000 in
theorem rs_any (w : World) (fs : By → Option Mf) (F : Mf) (s : Ms) (ql : Option Addr) (nl cl ob lb : Nat) (y : ByteArray) (pa : Int) (qt : Option Addr) (ct : Nat) (qs : Option Addr) (ns cs : Nat) (y6 y8 : ByteArray) (qa : Option Addr) (na ca : Nat)
    (ht : IntsAt w (.slice qt F.types.length ct) F.types) (hs : StV w s y6 y8 qa na ca) (hl : LabC w lb F.steps) (ho : OfE w fs ob ql nl cl) (hm : ∃ m, w.cell? ⟨3, 0, none⟩ = some (.int .i64 m)) (hnl : nl ≤ 1000000) :
    Calls Tryd.prog 26 #[.slice ql nl cl, .map (some ob), fnV y pa qt F.types.length ct (.slice qs ns cs), .agg (stA s y6 y8 qa na ca), .map (some lb)] w (LkP (stepB fs F s) w) := by
  obtain ⟨m, hm⟩ := hm
  obtain ⟨nt, hnt⟩ : ∃ nt, nt = F.types.length := ⟨_, rfl⟩
  have hnt6 : nt ≤ 1000000 := by rw [hnt]; obtain ⟨_, _, _, h, _⟩ := ht; exact h
  obtain ⟨cc, hcc⟩ : ∃ cc, s.code = cc := ⟨_, rfl⟩
  obtain ⟨xd, hxd⟩ : ∃ xd, s.dst = xd := ⟨_, rfl⟩
  obtain ⟨xa, hxa⟩ : ∃ xa, s.a = xa := ⟨_, rfl⟩
  obtain ⟨xb, hxb⟩ : ∃ xb, s.b = xb := ⟨_, rfl⟩
  obtain ⟨xc, hxc⟩ : ∃ xc, s.c = xc := ⟨_, rfl⟩
  obtain ⟨x5, hx5⟩ : ∃ x5, s.n = x5 := ⟨_, rfl⟩
  obtain ⟨x7, hx7⟩ : ∃ x7, s.label = x7 := ⟨_, rfl⟩
  have HXX : Hid (s.dst = xd ∧ s.a = xa ∧ s.b = xb ∧ s.c = xc ∧ s.label = x7) := ⟨hxd, hxa, hxb, hxc, hx7⟩
  have HII : Hid (I64 xd ∧ I64 xa ∧ I64 xb ∧ I64 xc ∧ I64 x7) := by rw [← hxd, ← hxa, ← hxb, ← hxc, ← hx7]; exact ⟨hs.i1.2.1, hs.i1.2.2.1, hs.i1.2.2.2.1, hs.i1.2.2.2.2.1, hs.i1.2.2.2.2.2.2⟩
  have HCC : Hid (s.code = cc) := hcc
  have HS : Hid (StV w s y6 y8 qa na ca) := hs
  have HL : Hid (LabC w lb F.steps) := hl
  have HO : Hid (OfE w fs ob ql nl cl) := ho
  obtain ⟨W2, hW2⟩ : ∃ W2, W2 = (w.alloc (.cells #[.string y, .int .i64 pa, .slice qt nt ct, .slice qs ns cs] 57)).alloc (.cells #[.int .i64 cc, .int .i64 xd, .int .i64 xa, .int .i64 xb, .int .i64 xc, .int .i64 x5, .string y6, .int .i64 x7, .string y8, .slice qa na ca] 58) := ⟨_, rfl⟩
  have HB2 : Hid (Below w.heap.size w W2) := by rw [hW2]; exact (al_bel2 _ _).trans ((al_bel2 _ _).mono (by simp))
  have HZ2 : Hid (W2.heap.size = w.heap.size + 1 + 1) := by show _ = _; rw [hW2]; simp
  have HT2 : Hid (∀ W, Below w.heap.size w W → ∀ ps ts : List Int, (ps.length ≤ 1000000 ∧ ∀ x ∈ ps, I64 x) → (ts.length ≤ 1000000 ∧ ∀ x ∈ ts, I64 x) → Calls Tryd.prog 38 #[.agg #[.string y, .int .i64 pa, .slice qt nt ct, .slice qs ns cs], .slice (some ⟨W.heap.size, 0, none⟩) ps.length ps.length, .slice (some ⟨W.heap.size + 1, 0, none⟩) ts.length ts.length] ((W.alloc (.cells (ints ps).toArray 3)).alloc (.cells (ints ts).toArray 3)) (LtP (typedB F ps ts) W)) := fun W hb ps ts h1 h2 => by
    rw [hnt]
    exact typed_lit W F y pa qt ct qs ns cs ps ts (ht.below hb) h1 h2
  have HM2 : Hid (∀ W, Below w.heap.size w W → W.cell? ⟨3, 0, none⟩ = some (.int .i64 m)) := fun W hb => by rw [hb.cell (p := ⟨3, 0, none⟩) (cell_lt hm)]; exact hm
  have HTy : Hid (∀ W v ps, Below w.heap.size w W → IntsAt W v ps → IntsAt W (.slice qa na ca) s.args → Calls Tryd.prog 38 #[.agg #[.string y, .int .i64 pa, .slice qt nt ct, .slice qs ns cs], .slice qa na ca, v] W (LkP (typedB F s.args ps) W)) := fun W v ps hb hv ha => by
    rw [hnt]
    exact typed_any W F y pa qt ct qs ns cs _ _ _ _ (ht.below hb) ha hv
  have HTg : Hid (∀ W v u ps ts, Below w.heap.size w W → IntsAt W v ps → IntsAt W u ts → Calls Tryd.prog 38 #[.agg #[.string y, .int .i64 pa, .slice qt nt ct, .slice qs ns cs], v, u] W (LkP (typedB F ps ts) W)) := fun W v u ps ts hb hv hu => by
    rw [hnt]
    exact typed_any W F y pa qt ct qs ns cs _ _ _ _ (ht.below hb) hv hu
  generalize hG : LkP (stepB fs F s) w = G
  have HG : Hid (LkP (stepB fs F s) w = G) := hG
  have HFin : Hid (∀ W b, Below w.heap.size w W → stepB fs F s = b → G (.returned (.bool b)) W) := fun W b hb hb2 => by rw [← HG.out, hb2]; exact ⟨rfl, hb⟩
  have HFin2 : Hid (∀ W W' b, Below w.heap.size w W → Below W.heap.size W W' → stepB fs F s = b → G (.returned (.bool b)) W') := fun W W' b h1 h2 h3 => HFin.out W' b (h1.trans (h2.mono h1.size)) h3
  show Calls Tryd.prog 26 #[.slice ql nl cl, .map (some ob), .agg #[.string y, .int .i64 pa, .slice qt F.types.length ct, .slice qs ns cs], .agg #[.int .i64 s.code, .int .i64 s.dst, .int .i64 s.a, .int .i64 s.b, .int .i64 s.c, .int .i64 s.n, .string y6, .int .i64 s.label, .string y8, .slice qa na ca], .map (some lb)] w G
  rw [← hnt, hcc, hxd, hxa, hxb, hxc, hx5, hx7]
  clear ht hs hl ho hnt hcc hxd hxa hxb hxc hx5 hx7 hG hm
  by_cases q1 : cc = 1
  · subst q1
    have HSt : Hid (stepB fs F s = typedB F [xd] [1]) := by show _ = _; rw [rs_1 HCC.out, HXX.out.1]
    have HC : Hid (Calls Tryd.prog 38 #[.agg #[.string y, .int .i64 pa, .slice qt nt ct, .slice qs ns cs], .slice (some ⟨w.heap.size + 1 + 1, 0, none⟩) 1 1, .slice (some ⟨w.heap.size + 1 + 1 + 1, 0, none⟩) 1 1] ((W2.alloc (.cells #[.int .i64 xd] 3)).alloc (.cells #[.int .i64 1] 3)) (LtP (typedB F [xd] [1]) W2)) := by
      have h9 := HT2.out W2 HB2.out [xd] [1] ⟨by simp, fun x hx => by
      simp only [List.mem_cons, List.not_mem_nil, or_false] at hx
      rcases hx with rfl
      · exact HII.out.1⟩ ⟨by simp, fun x hx => by
      simp only [List.mem_cons, List.not_mem_nil, or_false] at hx
      rcases hx with rfl
      · exact i64k.1⟩
      rw [HZ2.out] at h9
      exact h9
    go_enter Tryd.func26, Tryd.ntmps26
    go_wp2_with (go_at_call 38; fail)
    rw [← hW2]
    clear hW2
    refine HC.out.mono ?_
    rintro e w1 ⟨rfl, hb1⟩
    have HX : Hid (G (.returned (.bool (typedB F [xd] [1]))) w1) := HFin2.out W2 w1 _ HB2.out hb1 HSt.out
    clear hb1
    go_wp2
    exact HX.out
  by_cases q14 : cc = 14
  · subst q14
    have HSt : Hid (stepB fs F s = typedB F [xd] [1]) := by show _ = _; rw [rs_14 HCC.out, HXX.out.1]
    have HC : Hid (Calls Tryd.prog 38 #[.agg #[.string y, .int .i64 pa, .slice qt nt ct, .slice qs ns cs], .slice (some ⟨w.heap.size + 1 + 1, 0, none⟩) 1 1, .slice (some ⟨w.heap.size + 1 + 1 + 1, 0, none⟩) 1 1] ((W2.alloc (.cells #[.int .i64 xd] 3)).alloc (.cells #[.int .i64 1] 3)) (LtP (typedB F [xd] [1]) W2)) := by
      have h9 := HT2.out W2 HB2.out [xd] [1] ⟨by simp, fun x hx => by
      simp only [List.mem_cons, List.not_mem_nil, or_false] at hx
      rcases hx with rfl
      · exact HII.out.1⟩ ⟨by simp, fun x hx => by
      simp only [List.mem_cons, List.not_mem_nil, or_false] at hx
      rcases hx with rfl
      · exact i64k.1⟩
      rw [HZ2.out] at h9
      exact h9
    go_enter Tryd.func26, Tryd.ntmps26
    go_wp2_with (go_at_call 38; fail)
    rw [← hW2]
    clear hW2
    refine HC.out.mono ?_
    rintro e w1 ⟨rfl, hb1⟩
    have HX : Hid (G (.returned (.bool (typedB F [xd] [1]))) w1) := HFin2.out W2 w1 _ HB2.out hb1 HSt.out
    clear hb1
    go_wp2
    exact HX.out
  by_cases q8 : cc = 8
  · subst q8
    have HSt : Hid (stepB fs F s = typedB F [xa] [1]) := by show _ = _; rw [rs_8 HCC.out, HXX.out.2.1]
    have HC : Hid (Calls Tryd.prog 38 #[.agg #[.string y, .int .i64 pa, .slice qt nt ct, .slice qs ns cs], .slice (some ⟨w.heap.size + 1 + 1, 0, none⟩) 1 1, .slice (some ⟨w.heap.size + 1 + 1 + 1, 0, none⟩) 1 1] ((W2.alloc (.cells #[.int .i64 xa] 3)).alloc (.cells #[.int .i64 1] 3)) (LtP (typedB F [xa] [1]) W2)) := by
      have h9 := HT2.out W2 HB2.out [xa] [1] ⟨by simp, fun x hx => by
      simp only [List.mem_cons, List.not_mem_nil, or_false] at hx
      rcases hx with rfl
      · exact HII.out.2.1⟩ ⟨by simp, fun x hx => by
      simp only [List.mem_cons, List.not_mem_nil, or_false] at hx
      rcases hx with rfl
      · exact i64k.1⟩
      rw [HZ2.out] at h9
      exact h9
    go_enter Tryd.func26, Tryd.ntmps26
    go_wp2_with (go_at_call 38; fail)
    rw [← hW2]
    clear hW2
    refine HC.out.mono ?_
    rintro e w1 ⟨rfl, hb1⟩
    have HX : Hid (G (.returned (.bool (typedB F [xa] [1]))) w1) := HFin2.out W2 w1 _ HB2.out hb1 HSt.out
    clear hb1
    go_wp2
    exact HX.out
  by_cases q13 : cc = 13
  · subst q13
    have HSt : Hid (stepB fs F s = typedB F [xa] [1]) := by show _ = _; rw [rs_13 HCC.out, HXX.out.2.1]
    have HC : Hid (Calls Tryd.prog 38 #[.agg #[.string y, .int .i64 pa, .slice qt nt ct, .slice qs ns cs], .slice (some ⟨w.heap.size + 1 + 1, 0, none⟩) 1 1, .slice (some ⟨w.heap.size + 1 + 1 + 1, 0, none⟩) 1 1] ((W2.alloc (.cells #[.int .i64 xa] 3)).alloc (.cells #[.int .i64 1] 3)) (LtP (typedB F [xa] [1]) W2)) := by
      have h9 := HT2.out W2 HB2.out [xa] [1] ⟨by simp, fun x hx => by
      simp only [List.mem_cons, List.not_mem_nil, or_false] at hx
      rcases hx with rfl
      · exact HII.out.2.1⟩ ⟨by simp, fun x hx => by
      simp only [List.mem_cons, List.not_mem_nil, or_false] at hx
      rcases hx with rfl
      · exact i64k.1⟩
      rw [HZ2.out] at h9
      exact h9
    go_enter Tryd.func26, Tryd.ntmps26
    go_wp2_with (go_at_call 38; fail)
    rw [← hW2]
    clear hW2
    refine HC.out.mono ?_
    rintro e w1 ⟨rfl, hb1⟩
    have HX : Hid (G (.returned (.bool (typedB F [xa] [1]))) w1) := HFin2.out W2 w1 _ HB2.out hb1 HSt.out
    clear hb1
    go_wp2
    exact HX.out
  by_cases q9 : cc = 9
  · subst q9
    have HSt : Hid (stepB fs F s = typedB F [xd, xa] [2, 1]) := by show _ = _; rw [rs_9 HCC.out, HXX.out.1, HXX.out.2.1]
    have HC : Hid (Calls Tryd.prog 38 #[.agg #[.string y, .int .i64 pa, .slice qt nt ct, .slice qs ns cs], .slice (some ⟨w.heap.size + 1 + 1, 0, none⟩) 2 2, .slice (some ⟨w.heap.size + 1 + 1 + 1, 0, none⟩) 2 2] ((W2.alloc (.cells #[.int .i64 xd, .int .i64 xa] 3)).alloc (.cells #[.int .i64 2, .int .i64 1] 3)) (LtP (typedB F [xd, xa] [2, 1]) W2)) := by
      have h9 := HT2.out W2 HB2.out [xd, xa] [2, 1] ⟨by simp, fun x hx => by
      simp only [List.mem_cons, List.not_mem_nil, or_false] at hx
      rcases hx with rfl | rfl
      · exact HII.out.1
      · exact HII.out.2.1⟩ ⟨by simp, fun x hx => by
      simp only [List.mem_cons, List.not_mem_nil, or_false] at hx
      rcases hx with rfl | rfl
      · exact i64k.2
      · exact i64k.1⟩
      rw [HZ2.out] at h9
      exact h9
    go_enter Tryd.func26, Tryd.ntmps26
    go_wp2_with (go_at_call 38; fail)
    rw [← hW2]
    clear hW2
    refine HC.out.mono ?_
    rintro e w1 ⟨rfl, hb1⟩
    have HX : Hid (G (.returned (.bool (typedB F [xd, xa] [2, 1]))) w1) := HFin2.out W2 w1 _ HB2.out hb1 HSt.out
    clear hb1
    go_wp2
    exact HX.out
  by_cases q10 : cc = 10
  · subst q10
    have HSt : Hid (stepB fs F s = typedB F [xd, xa] [1, 2]) := by show _ = _; rw [rs_10 HCC.out, HXX.out.1, HXX.out.2.1]
    have HC : Hid (Calls Tryd.prog 38 #[.agg #[.string y, .int .i64 pa, .slice qt nt ct, .slice qs ns cs], .slice (some ⟨w.heap.size + 1 + 1, 0, none⟩) 2 2, .slice (some ⟨w.heap.size + 1 + 1 + 1, 0, none⟩) 2 2] ((W2.alloc (.cells #[.int .i64 xd, .int .i64 xa] 3)).alloc (.cells #[.int .i64 1, .int .i64 2] 3)) (LtP (typedB F [xd, xa] [1, 2]) W2)) := by
      have h9 := HT2.out W2 HB2.out [xd, xa] [1, 2] ⟨by simp, fun x hx => by
      simp only [List.mem_cons, List.not_mem_nil, or_false] at hx
      rcases hx with rfl | rfl
      · exact HII.out.1
      · exact HII.out.2.1⟩ ⟨by simp, fun x hx => by
      simp only [List.mem_cons, List.not_mem_nil, or_false] at hx
      rcases hx with rfl | rfl
      · exact i64k.1
      · exact i64k.2⟩
      rw [HZ2.out] at h9
      exact h9
    go_enter Tryd.func26, Tryd.ntmps26
    go_wp2_with (go_at_call 38; fail)
    rw [← hW2]
    clear hW2
    refine HC.out.mono ?_
    rintro e w1 ⟨rfl, hb1⟩
    have HX : Hid (G (.returned (.bool (typedB F [xd, xa] [1, 2]))) w1) := HFin2.out W2 w1 _ HB2.out hb1 HSt.out
    clear hb1
    go_wp2
    exact HX.out
  by_cases q11 : cc = 11
  · subst q11
    have HSt : Hid (stepB fs F s = typedB F [xd, xa, xb] [1, 2, 1]) := by show _ = _; rw [rs_11 HCC.out, HXX.out.1, HXX.out.2.1, HXX.out.2.2.1]
    have HC : Hid (Calls Tryd.prog 38 #[.agg #[.string y, .int .i64 pa, .slice qt nt ct, .slice qs ns cs], .slice (some ⟨w.heap.size + 1 + 1, 0, none⟩) 3 3, .slice (some ⟨w.heap.size + 1 + 1 + 1, 0, none⟩) 3 3] ((W2.alloc (.cells #[.int .i64 xd, .int .i64 xa, .int .i64 xb] 3)).alloc (.cells #[.int .i64 1, .int .i64 2, .int .i64 1] 3)) (LtP (typedB F [xd, xa, xb] [1, 2, 1]) W2)) := by
      have h9 := HT2.out W2 HB2.out [xd, xa, xb] [1, 2, 1] ⟨by simp, fun x hx => by
      simp only [List.mem_cons, List.not_mem_nil, or_false] at hx
      rcases hx with rfl | rfl | rfl
      · exact HII.out.1
      · exact HII.out.2.1
      · exact HII.out.2.2.1⟩ ⟨by simp, fun x hx => by
      simp only [List.mem_cons, List.not_mem_nil, or_false] at hx
      rcases hx with rfl | rfl | rfl
      · exact i64k.1
      · exact i64k.2
      · exact i64k.1⟩
      rw [HZ2.out] at h9
      exact h9
    go_enter Tryd.func26, Tryd.ntmps26
    go_wp2_with (go_at_call 38; fail)
    rw [← hW2]
    clear hW2
    refine HC.out.mono ?_
    rintro e w1 ⟨rfl, hb1⟩
    have HX : Hid (G (.returned (.bool (typedB F [xd, xa, xb] [1, 2, 1]))) w1) := HFin2.out W2 w1 _ HB2.out hb1 HSt.out
    clear hb1
    go_wp2
    exact HX.out
  by_cases q12 : cc = 12
  · subst q12
    have HSt : Hid (stepB fs F s = typedB F [xa, xb, xc] [2, 1, 1]) := by show _ = _; rw [rs_12 HCC.out, HXX.out.2.1, HXX.out.2.2.1, HXX.out.2.2.2.1]
    have HC : Hid (Calls Tryd.prog 38 #[.agg #[.string y, .int .i64 pa, .slice qt nt ct, .slice qs ns cs], .slice (some ⟨w.heap.size + 1 + 1, 0, none⟩) 3 3, .slice (some ⟨w.heap.size + 1 + 1 + 1, 0, none⟩) 3 3] ((W2.alloc (.cells #[.int .i64 xa, .int .i64 xb, .int .i64 xc] 3)).alloc (.cells #[.int .i64 2, .int .i64 1, .int .i64 1] 3)) (LtP (typedB F [xa, xb, xc] [2, 1, 1]) W2)) := by
      have h9 := HT2.out W2 HB2.out [xa, xb, xc] [2, 1, 1] ⟨by simp, fun x hx => by
      simp only [List.mem_cons, List.not_mem_nil, or_false] at hx
      rcases hx with rfl | rfl | rfl
      · exact HII.out.2.1
      · exact HII.out.2.2.1
      · exact HII.out.2.2.2.1⟩ ⟨by simp, fun x hx => by
      simp only [List.mem_cons, List.not_mem_nil, or_false] at hx
      rcases hx with rfl | rfl | rfl
      · exact i64k.2
      · exact i64k.1
      · exact i64k.1⟩
      rw [HZ2.out] at h9
      exact h9
    go_enter Tryd.func26, Tryd.ntmps26
    go_wp2_with (go_at_call 38; fail)
    rw [← hW2]
    clear hW2
    refine HC.out.mono ?_
    rintro e w1 ⟨rfl, hb1⟩
    have HX : Hid (G (.returned (.bool (typedB F [xa, xb, xc] [2, 1, 1]))) w1) := HFin2.out W2 w1 _ HB2.out hb1 HSt.out
    clear hb1
    go_wp2
    exact HX.out
  by_cases q2 : cc = 2
  · subst q2
    have HSt : Hid (stepB fs F s = (typedB F [xd, xa] [1, 1] || typedB F [xd, xa] [2, 2])) := by show _ = _; rw [rs_2 HCC.out, HXX.out.1, HXX.out.2.1]
    have HC : Hid (Calls Tryd.prog 38 #[.agg #[.string y, .int .i64 pa, .slice qt nt ct, .slice qs ns cs], .slice (some ⟨w.heap.size + 1 + 1, 0, none⟩) 2 2, .slice (some ⟨w.heap.size + 1 + 1 + 1, 0, none⟩) 2 2] ((W2.alloc (.cells #[.int .i64 xd, .int .i64 xa] 3)).alloc (.cells #[.int .i64 1, .int .i64 1] 3)) (LtP (typedB F [xd, xa] [1, 1]) W2)) := by
      have h9 := HT2.out W2 HB2.out [xd, xa] [1, 1] ⟨by simp, fun x hx => by
      simp only [List.mem_cons, List.not_mem_nil, or_false] at hx
      rcases hx with rfl | rfl
      · exact HII.out.1
      · exact HII.out.2.1⟩ ⟨by simp, fun x hx => by
      simp only [List.mem_cons, List.not_mem_nil, or_false] at hx
      rcases hx with rfl | rfl
      · exact i64k.1
      · exact i64k.1⟩
      rw [HZ2.out] at h9
      exact h9
    have HK : Hid (W2.heap[w.heap.size]? = some (.cells #[.string y, .int .i64 pa, .slice qt nt ct, .slice qs ns cs] 57) ∧ W2.heap[w.heap.size + 1]? = some (.cells #[.int .i64 2, .int .i64 xd, .int .i64 xa, .int .i64 xb, .int .i64 xc, .int .i64 x5, .string y6, .int .i64 x7, .string y8, .slice qa na ca] 58)) := by
      rw [hW2]
      refine ⟨by rw [row_eq_alloc (by simp)]; exact heap_alloc_last _ _, ?_⟩
      have := heap_alloc_last (w.alloc (.cells #[.string y, .int .i64 pa, .slice qt nt ct, .slice qs ns cs] 57)) (.cells #[.int .i64 2, .int .i64 xd, .int .i64 xa, .int .i64 xb, .int .i64 xc, .int .i64 x5, .string y6, .int .i64 x7, .string y8, .slice qa na ca] 58)
      simpa using this
    go_enter Tryd.func26, Tryd.ntmps26
    go_wp2_with (go_at_call 38; fail)
    rw [← hW2]
    clear hW2
    refine HC.out.mono ?_
    rintro e w1 ⟨rfl, hb1⟩
    have HB3 : Hid (Below w.heap.size w w1) := HB2.out.trans (hb1.mono HB2.out.size)
    cases ht1 : typedB F [xd, xa] [1, 1] with
    | true =>
      have HX : Hid (G (.returned (.bool true)) w1) := HFin.out w1 _ HB3.out (by rw [HSt.out, ht1]; rfl)
      clear hb1 ht1
      go_wp2
      exact HX.out
    | false =>
      have HX : Hid (∀ W, Below w1.heap.size w1 W → G (.returned (.bool (typedB F [xd, xa] [2, 2]))) W) := fun W hb => HFin2.out w1 W _ HB3.out hb (by rw [HSt.out, ht1]; rfl)
      have HC2 : Hid (Calls Tryd.prog 38 #[.agg #[.string y, .int .i64 pa, .slice qt nt ct, .slice qs ns cs], .slice (some ⟨w1.heap.size, 0, none⟩) 2 2, .slice (some ⟨w1.heap.size + 1, 0, none⟩) 2 2] ((w1.alloc (.cells #[.int .i64 xd, .int .i64 xa] 3)).alloc (.cells #[.int .i64 2, .int .i64 2] 3)) (LtP (typedB F [xd, xa] [2, 2]) w1)) := HT2.out w1 HB3.out [xd, xa] [2, 2] ⟨by simp, fun x hx => by
      simp only [List.mem_cons, List.not_mem_nil, or_false] at hx
      rcases hx with rfl | rfl
      · exact HII.out.1
      · exact HII.out.2.1⟩ ⟨by simp, fun x hx => by
      simp only [List.mem_cons, List.not_mem_nil, or_false] at hx
      rcases hx with rfl | rfl
      · exact i64k.2
      · exact i64k.2⟩
      have hF1 : w1.heap[w.heap.size]? = some (.cells #[.string y, .int .i64 pa, .slice qt nt ct, .slice qs ns cs] 57) := by rw [hb1.block _ (by have := HZ2.out; omega)]; exact HK.out.1
      have f0 := cell_at (i := 0) hF1 rfl
      have f1 := cell_at (i := 1) hF1 rfl
      have f2 := cell_at (i := 2) hF1 rfl
      have f3 := cell_at (i := 3) hF1 rfl
      have hS1 := HK.out.2
      rw [← hb1.block _ (by have := HZ2.out; omega)] at hS1
      have s1 := cell_at (i := 1) hS1 rfl
      have s2 := cell_at (i := 2) hS1 rfl
      clear hF1 hS1
      clear hb1 ht1
      go_wp2_with (go_at_call 38; fail)
      refine HC2.out.mono ?_
      rintro e w2 ⟨rfl, hb2⟩
      have HX2 : Hid (G (.returned (.bool (typedB F [xd, xa] [2, 2]))) w2) := HX.out w2 hb2
      clear hb2
      go_wp2
      exact HX2.out
  by_cases q3 : cc = 3
  · subst q3
    have HSt : Hid (stepB fs F s = (typedB F [xd, xa, xb] [1, 1, 1] && opB y6.data.toList)) := by show _ = _; rw [rs_3 HCC.out, HXX.out.1, HXX.out.2.1, HXX.out.2.2.1, HS.out.op]
    have HC : Hid (Calls Tryd.prog 38 #[.agg #[.string y, .int .i64 pa, .slice qt nt ct, .slice qs ns cs], .slice (some ⟨w.heap.size + 1 + 1, 0, none⟩) 3 3, .slice (some ⟨w.heap.size + 1 + 1 + 1, 0, none⟩) 3 3] ((W2.alloc (.cells #[.int .i64 xd, .int .i64 xa, .int .i64 xb] 3)).alloc (.cells #[.int .i64 1, .int .i64 1, .int .i64 1] 3)) (LtP (typedB F [xd, xa, xb] [1, 1, 1]) W2)) := by
      have h9 := HT2.out W2 HB2.out [xd, xa, xb] [1, 1, 1] ⟨by simp, fun x hx => by
      simp only [List.mem_cons, List.not_mem_nil, or_false] at hx
      rcases hx with rfl | rfl | rfl
      · exact HII.out.1
      · exact HII.out.2.1
      · exact HII.out.2.2.1⟩ ⟨by simp, fun x hx => by
      simp only [List.mem_cons, List.not_mem_nil, or_false] at hx
      rcases hx with rfl | rfl | rfl
      · exact i64k.1
      · exact i64k.1
      · exact i64k.1⟩
      rw [HZ2.out] at h9
      exact h9
    have hy6 : y6.size ≤ 1000000 := by have h8 := HS.out.i2.1; rw [← HS.out.op, Array.length_toList] at h8; exact h8
    have HK : Hid (W2.heap[w.heap.size]? = some (.cells #[.string y, .int .i64 pa, .slice qt nt ct, .slice qs ns cs] 57) ∧ W2.heap[w.heap.size + 1]? = some (.cells #[.int .i64 3, .int .i64 xd, .int .i64 xa, .int .i64 xb, .int .i64 xc, .int .i64 x5, .string y6, .int .i64 x7, .string y8, .slice qa na ca] 58)) := by
      rw [hW2]
      refine ⟨by rw [row_eq_alloc (by simp)]; exact heap_alloc_last _ _, ?_⟩
      have := heap_alloc_last (w.alloc (.cells #[.string y, .int .i64 pa, .slice qt nt ct, .slice qs ns cs] 57)) (.cells #[.int .i64 3, .int .i64 xd, .int .i64 xa, .int .i64 xb, .int .i64 xc, .int .i64 x5, .string y6, .int .i64 x7, .string y8, .slice qa na ca] 58)
      simpa using this
    go_enter Tryd.func26, Tryd.ntmps26
    go_wp2_with (go_at_call 38; fail)
    rw [← hW2]
    clear hW2
    refine HC.out.mono ?_
    rintro e w1 ⟨rfl, hb1⟩
    have HB3 : Hid (Below w.heap.size w w1) := HB2.out.trans (hb1.mono HB2.out.size)
    cases ht1 : typedB F [xd, xa, xb] [1, 1, 1] with
    | false =>
      have HX : Hid (G (.returned (.bool false)) w1) := HFin.out w1 _ HB3.out (by rw [HSt.out, ht1]; rfl)
      clear hb1 ht1
      go_wp2
      exact HX.out
    | true =>
      have HX : Hid (∀ b, opB y6.data.toList = b → G (.returned (.bool b)) w1) := fun b hb => HFin.out w1 b HB3.out (by rw [HSt.out, ht1, hb]; rfl)
      have hF1 : w1.heap[w.heap.size]? = some (.cells #[.string y, .int .i64 pa, .slice qt nt ct, .slice qs ns cs] 57) := by rw [hb1.block _ (by have := HZ2.out; omega)]; exact HK.out.1
      have f0 := cell_at (i := 0) hF1 rfl
      have f1 := cell_at (i := 1) hF1 rfl
      have f2 := cell_at (i := 2) hF1 rfl
      have f3 := cell_at (i := 3) hF1 rfl
      have hS1 := HK.out.2
      rw [← hb1.block _ (by have := HZ2.out; omega)] at hS1
      have s6 := cell_at (i := 6) hS1 rfl
      clear hF1 hS1
      have hm1 := HM2.out w1 HB3.out
      clear hb1 ht1
      by_cases hy : y6.data.toList = []
      · have HX2 : Hid (G (.returned (.bool false)) w1) := HX.out false (by unfold opB; rw [hy]; rfl)
        have hy' : y6 = ⟨#[]⟩ := by cases y6; congr 1; exact Array.ext' hy
        subst hy'
        go_wp2
        exact HX2.out
      · have t1 : (y6.toList != []) = true := by rw [← tl_eq]; simpa using hy
        have t3 : ¬ y6.toList = [] := by rw [← tl_eq]; exact hy
        have HC1 : Hid (∀ b, decide (0 ≤ Lib.indexByte y6.data.toList 32) = b → Calls Tryd.prog 39 #[.string y6, .string ⟨#[32]⟩] w1 fun e w' => e = .returned (.bool b) ∧ w' = w1) := fun b hb => by subst hb; exact Tryd.strings_Contains_one y6 32 w1
        have HC2 : Hid (∀ sub, Calls Tryd.prog 39 #[.string ⟨#[32, 43, 32, 45, 32, 42, 32, 47, 32, 37, 32, 61, 61, 32, 33, 61, 32, 60, 32, 60, 61, 32, 62, 32, 62, 61, 32]⟩, .string sub] w1 fun e w' => e = .returned (.bool (Lib.contains tabB sub.data.toList)) ∧ w' = w1) := fun sub => Tryd.strings_Contains _ sub m w1 (by decide) hm1
        cases hib : decide (0 ≤ Lib.indexByte y6.data.toList 32) with
        | true =>
          have HX2 : Hid (G (.returned (.bool false)) w1) := HX.out false (by unfold opB; rw [hib]; simp)
          have HI : Hid (decide (0 ≤ Lib.indexByte y6.data.toList 32) = true) := hib
          clear hib hy
          go_wp2_with (go_at_call 39; refine (HC1.out _ HI.out).mono ?_; rintro e w' ⟨rfl, rfl⟩)
          exact HX2.out
        | false =>
          have HX2 : Hid (∀ b, b = Lib.contains tabB ([32] ++ y6.data.toList ++ [32]) → G (.returned (.bool b)) w1) := fun b hs => HX.out _ (by unfold opB; rw [hib, decide_eq_true hy, hs]; rfl)
          have HI : Hid (decide (0 ≤ Lib.indexByte y6.data.toList 32) = false) := hib
          clear hib hy
          go_wp2_with (first
            | (go_at_call 39; refine (HC1.out _ HI.out).mono ?_; rintro e w' ⟨rfl, rfl⟩)
            | (go_at_call 39; refine (HC2.out _).mono ?_; rintro e w' ⟨rfl, rfl⟩))
          exact HX2.out _ (by first | rfl | (simp [t3]; done) | (congr 1; simp; done))
  by_cases q4 : cc = 4
  · subst q4
    have HSt : Hid (stepB fs F s = decide (0 < (cntL F.steps x7 : Int))) := by show _ = _; rw [rs_4 HCC.out, HXX.out.2.2.2.2, cnt_pos]
    have lk := HL.out.2 W2 (HB2.out.block _ HL.out.1) x7 HII.out.2.2.2.2
    obtain ⟨k, hk⟩ : ∃ k, cntL F.steps x7 = k := ⟨_, rfl⟩
    rw [hk] at lk
    have HX : Hid (∀ b, b = decide (0 < (k : Int)) → G (.returned (.bool b)) W2) := fun b hb => HFin.out W2 _ HB2.out (by rw [HSt.out, hk, hb])
    rw [hW2] at lk HX
    clear hk hW2
    go_enter Tryd.func26, Tryd.ntmps26
    go_wp2
    exact HX.out _ (by simp)
  by_cases q5 : cc = 5
  · subst q5
    have HSt : Hid (stepB fs F s = (decide (0 < (cntL F.steps x7 : Int)) && typedB F [xa] [1])) := by show _ = _; rw [rs_5 HCC.out, HXX.out.2.2.2.2, HXX.out.2.1, cnt_pos]
    have lk := HL.out.2 W2 (HB2.out.block _ HL.out.1) x7 HII.out.2.2.2.2
    obtain ⟨k, hk⟩ : ∃ k, cntL F.steps x7 = k := ⟨_, rfl⟩
    rw [hk] at lk HSt
    clear hk
    have HC : Hid (Calls Tryd.prog 38 #[.agg #[.string y, .int .i64 pa, .slice qt nt ct, .slice qs ns cs], .slice (some ⟨w.heap.size + 1 + 1, 0, none⟩) 1 1, .slice (some ⟨w.heap.size + 1 + 1 + 1, 0, none⟩) 1 1] ((W2.alloc (.cells #[.int .i64 xa] 3)).alloc (.cells #[.int .i64 1] 3)) (LtP (typedB F [xa] [1]) W2)) := by
      have h9 := HT2.out W2 HB2.out [xa] [1] ⟨by simp, fun x hx => by
      simp only [List.mem_cons, List.not_mem_nil, or_false] at hx
      rcases hx with rfl
      · exact HII.out.2.1⟩ ⟨by simp, fun x hx => by
      simp only [List.mem_cons, List.not_mem_nil, or_false] at hx
      rcases hx with rfl
      · exact i64k.1⟩
      rw [HZ2.out] at h9
      exact h9
    rw [hW2] at lk
    by_cases hk0 : 0 < k
    · have t0 : decide (0 < (k : Int)) = true := decide_eq_true (by omega)
      have t9 : decide (0 < k) = true := decide_eq_true hk0
      have HS2 : Hid (stepB fs F s = typedB F [xa] [1]) := by show _ = _; rw [HSt.out, t0]; rfl
      clear hk0
      go_enter Tryd.func26, Tryd.ntmps26
      go_wp2_with (go_at_call 38; fail)
      rw [← hW2]
      clear hW2
      refine HC.out.mono ?_
      rintro e w1 ⟨rfl, hb1⟩
      have HX : Hid (G (.returned (.bool (typedB F [xa] [1]))) w1) := HFin2.out W2 w1 _ HB2.out hb1 HS2.out
      clear hb1
      go_wp2
      exact HX.out
    · have t0 : decide (0 < (k : Int)) = false := decide_eq_false (by omega)
      have t9 : decide (0 < k) = false := decide_eq_false hk0
      have HX : Hid (G (.returned (.bool false)) W2) := HFin.out W2 _ HB2.out (by rw [HSt.out, t0]; rfl)
      rw [hW2] at HX
      clear hk0 hW2
      go_enter Tryd.func26, Tryd.ntmps26
      go_wp2
      exact HX.out
  by_cases q6 : cc = 6
  · subst q6
    have HX : Hid (G (.returned (.bool true)) W2) := HFin.out W2 _ HB2.out (rs_6 HCC.out)
    rw [hW2] at HX
    clear hW2
    go_enter Tryd.func26, Tryd.ntmps26
    go_wp2
    exact HX.out
  by_cases q7 : cc = 7
  · subst q7
    have HSt : Hid (stepB fs F s = (typedB F [xd] [1] && fitsB F (fs s.name) s.args)) := by show _ = _; rw [rs_7 HCC.out, HXX.out.1]
    have HK : Hid (W2.heap[w.heap.size]? = some (.cells #[.string y, .int .i64 pa, .slice qt nt ct, .slice qs ns cs] 57) ∧ W2.heap[w.heap.size + 1]? = some (.cells #[.int .i64 7, .int .i64 xd, .int .i64 xa, .int .i64 xb, .int .i64 xc, .int .i64 x5, .string y6, .int .i64 x7, .string y8, .slice qa na ca] 58)) := by
      rw [hW2]
      refine ⟨al_first, al_last⟩
    rcases HO.out.2 s.name HS.out.i2.2 with ⟨a1, k, a2⟩ | ⟨gl, p9, j, GG, rfl, a1, a2, a3, a4, a5, a6, a7⟩
    · have lk := a2 W2 (HB2.out.block _ HO.out.1)
      rw [← HS.out.name, hW2] at lk
      have HX : Hid (∀ n, G (.returned (.bool false)) (W2.drewN n)) := fun n => HFin2.out W2 _ _ HB2.out (bel_n W2 n) (by rw [HSt.out, a1]; simp [fitsB])
      clear a1 a2
      go_enter Tryd.func26, Tryd.ntmps26
      go_upto_region 18 with fail
      rw [← hW2]
      clear hW2 lk
      go_quiet (fail)
      go_wp2
      exact HX.out _
    · have lk := a7 W2 (HB2.out.block _ HO.out.1)
      rw [← HS.out.name, hW2] at lk
      obtain ⟨qG, cG, a6, a8⟩ := a6
      obtain ⟨pk, hpk⟩ : ∃ pk : Nat, GG.params = pk := ⟨GG.params.toNat, by omega⟩
      obtain ⟨nG, hnG⟩ : ∃ nG, nG = GG.types.length := ⟨_, rfl⟩
      have hpn : pk ≤ nG := by omega
      have hnc : nG ≤ cG := by omega
      have HSt2 : Hid (stepB fs F s = (typedB F [xd] [1] && typedB F s.args (GG.types.take pk))) := by show _ = _; rw [HSt.out, a3, fits_typed a5, hpk, Int.toNat_natCast]
      have hsl := slice32 
      have hsl9 : ∀ W, (Instr.slice 32 (.slice qG nG cG) none (some (.int .i64 (pk : Int))) none).run Tryd.prog W = .ok (.slice qG pk cG) W := fun W => slice32 W qG nG cG pk (by omega)
      have HIg : Hid (IntsAt w (.slice qG pk cG) (GG.types.take pk)) := by
        obtain ⟨v9, b1, b2⟩ := a4.c2
        rw [a6] at b1
        injection b1 with b1
        rw [← b1] at b2
        exact ints_take b2 (by omega)
      have HCel : Hid (∀ W, Below W2.heap.size W2 W → W.cell? ⟨w.heap.size, 0, none⟩ = some (.string y) ∧ W.cell? ⟨w.heap.size, 1, none⟩ = some (.int .i64 pa) ∧ W.cell? ⟨w.heap.size, 2, none⟩ = some (.slice qt nt ct) ∧ W.cell? ⟨w.heap.size, 3, none⟩ = some (.slice qs ns cs) ∧ W.cell? ⟨w.heap.size + 1, 1, none⟩ = some (.int .i64 xd) ∧ W.cell? ⟨w.heap.size + 1, 9, none⟩ = some (.slice qa na ca) ∧ W.cell? ⟨gl, p9 + j * 4 + 1, none⟩ = some (.int .i64 (pk : Int)) ∧ W.cell? ⟨gl, p9 + j * 4 + 2, none⟩ = some (.slice qG nG cG)) := fun W hb => by
        have hb9 : Below w.heap.size w W := HB2.out.trans (hb.mono HB2.out.size)
        have hF1 : W.heap[w.heap.size]? = some (.cells #[.string y, .int .i64 pa, .slice qt nt ct, .slice qs ns cs] 57) := by rw [hb.block _ (by have := HZ2.out; omega)]; exact HK.out.1
        have hS1 : W.heap[w.heap.size + 1]? = some (.cells #[.int .i64 7, .int .i64 xd, .int .i64 xa, .int .i64 xb, .int .i64 xc, .int .i64 x5, .string y6, .int .i64 x7, .string y8, .slice qa na ca] 58) := by rw [hb.block _ (by have := HZ2.out; omega)]; exact HK.out.2
        refine ⟨cell_at (i := 0) hF1 rfl, cell_at (i := 1) hF1 rfl, cell_at (i := 2) hF1 rfl, cell_at (i := 3) hF1 rfl, cell_at (i := 1) hS1 rfl, cell_at (i := 9) hS1 rfl, ?_, ?_⟩
        · rw [hb9.cell (p := ⟨gl, p9 + j * 4 + 1, none⟩) (cell_lt a4.c1), ← hpk]; exact a4.c1
        · rw [hb9.cell (p := ⟨gl, p9 + j * 4 + 2, none⟩) (cell_lt a6), hnG]; exact a6
      have hjl : (j : Int) < (nl : Int) := by omega
      have HT3 : Hid (∀ W, Below W2.heap.size W2 W → Calls Tryd.prog 38 #[.agg #[.string y, .int .i64 pa, .slice qt nt ct, .slice qs ns cs], .slice qa na ca, .slice qG pk cG] W (fun e w' => e = .returned (.bool (typedB F s.args (GG.types.take pk))) ∧ Below W2.heap.size W2 w')) := fun W hb => by
        have hb9 : Below w.heap.size w W := HB2.out.trans (hb.mono HB2.out.size)
        refine (HTy.out W _ _ hb9 (HIg.out.below hb9) (HS.out.args.below hb9)).mono ?_
        rintro e w' ⟨rfl, h⟩
        exact ⟨rfl, hb.trans (h.mono hb.size)⟩
      have HT1g : Hid (∀ W b1 b2 t1, typedB F [xd] [1] = t1 → Below W2.heap.size W2 W → W.heap[b1]? = some (.cells #[.int .i64 xd] 3) → W.heap[b2]? = some (.cells #[.int .i64 1] 3) → Calls Tryd.prog 38 #[.agg #[.string y, .int .i64 pa, .slice qt nt ct, .slice qs ns cs], .slice (some ⟨b1, 0, none⟩) 1 1, .slice (some ⟨b2, 0, none⟩) 1 1] W (fun e w' => e = .returned (.bool t1) ∧ Below W2.heap.size W2 w')) := fun W b1 b2 t1 ht hb h1 h2 => by
        have hb9 : Below w.heap.size w W := HB2.out.trans (hb.mono HB2.out.size)
        subst ht
        have i1 : IntsAt W (.slice (some ⟨b1, 0, none⟩) 1 1) [xd] := ints_lit (l := [xd]) h1 (by simp) (fun x hx => by simp at hx; subst hx; exact HII.out.1)
        have i2 : IntsAt W (.slice (some ⟨b2, 0, none⟩) 1 1) [1] := ints_lit (l := [1]) h2 (by simp) (fun x hx => by simp at hx; subst hx; exact i64k.1)
        refine (HTg.out W _ _ _ _ hb9 i1 i2).mono ?_
        rintro e w' ⟨rfl, h⟩
        exact ⟨rfl, hb.trans (h.mono hb.size)⟩
      clear a1 a3 a4 a5 a6 a7 a8 hpk hnG hsl
      obtain ⟨e1, e2, e3, e4, e5, e6, e7, e8⟩ := HCel.out W2 (Below.refl _ _)
      cases ht1 : typedB F [xd] [1] with
      | false =>
        have HT1 : Hid (∀ W b1 b2, Below W2.heap.size W2 W → W.heap[b1]? = some (.cells #[.int .i64 xd] 3) → W.heap[b2]? = some (.cells #[.int .i64 1] 3) → Calls Tryd.prog 38 #[.agg #[.string y, .int .i64 pa, .slice qt nt ct, .slice qs ns cs], .slice (some ⟨b1, 0, none⟩) 1 1, .slice (some ⟨b2, 0, none⟩) 1 1] W (fun e w' => e = .returned (.bool false) ∧ Below W2.heap.size W2 w')) := fun W b1 b2 => HT1g.out W b1 b2 false ht1
        have HX : Hid (∀ W, Below W2.heap.size W2 W → G (.returned (.bool false)) W) := fun W hb => HFin2.out W2 W _ HB2.out hb (by rw [HSt2.out, ht1]; rfl)
        clear ht1
        go_enter Tryd.func26, Tryd.ntmps26
        go_upto_region 18 with fail
        rw [← hW2]
        clear hW2 lk
        refine wp_region_held_drew (S := fun w' => w'.cell? ⟨w.heap.size, 0, none⟩ = some (.string y) ∧ w'.cell? ⟨w.heap.size, 1, none⟩ = some (.int .i64 pa) ∧ w'.cell? ⟨w.heap.size, 2, none⟩ = some (.slice qt nt ct) ∧ w'.cell? ⟨w.heap.size, 3, none⟩ = some (.slice qs ns cs) ∧ w'.cell? ⟨w.heap.size + 1, 1, none⟩ = some (.int .i64 xd) ∧ w'.cell? ⟨w.heap.size + 1, 9, none⟩ = some (.slice qa na ca) ∧ w'.cell? ⟨gl, p9 + j * 4 + 1, none⟩ = some (.int .i64 (pk : Int)) ∧ w'.cell? ⟨gl, p9 + j * 4 + 2, none⟩ = some (.slice qG nG cG)) (by kernel_rfl) ?_ (fun hHeld => ?_)
        · exact ⟨e1, e2, e3, e4, e5, e6, e7, e8⟩
        refine wpAnyH_take (i := 0) (v := ?val0) rfl (by kernel_rfl) (by kernel_rfl) (by kernel_rfl) (fun _ _ _ h => h) (Or.inl ⟨by rfl, ?hy0⟩) hHeld ?go0
        case hy0 => (intro w hSw; (try dsimp only at hSw); (try (obtain ⟨z1, z2, z3, z4, z5, z6, z7, z8⟩ := hSw)); go_simp; try rfl)
        case go0 =>
        simp only [Act.put, List.setIfInBounds_toArray, List.set_cons_zero, List.set_cons_succ, List.getElem_toArray, List.getElem_cons_zero, List.getElem_cons_succ]
        refine wpAnyH_take (i := 1) (v := ?val1) rfl (by kernel_rfl) (by kernel_rfl) (by kernel_rfl) (fun _ _ _ h => h) (Or.inl ⟨by rfl, ?hy1⟩) hHeld ?go1
        case hy1 => (intro w hSw; (try dsimp only at hSw); (try (obtain ⟨z1, z2, z3, z4, z5, z6, z7, z8⟩ := hSw)); go_simp; try rfl)
        case go1 =>
        simp only [Act.put, List.setIfInBounds_toArray, List.set_cons_zero, List.set_cons_succ, List.getElem_toArray, List.getElem_cons_zero, List.getElem_cons_succ]
        refine wpAnyH_take (i := 2) (v := ?val2) rfl (by kernel_rfl) (by kernel_rfl) (by kernel_rfl) (fun _ _ _ h => h) (Or.inl ⟨by rfl, ?hy2⟩) hHeld ?go2
        case hy2 => (intro w hSw; (try dsimp only at hSw); (try (obtain ⟨z1, z2, z3, z4, z5, z6, z7, z8⟩ := hSw)); go_simp; try rfl)
        case go2 =>
        simp only [Act.put, List.setIfInBounds_toArray, List.set_cons_zero, List.set_cons_succ, List.getElem_toArray, List.getElem_cons_zero, List.getElem_cons_succ]
        refine wpAnyH_take (i := 3) (v := ?val3) rfl (by kernel_rfl) (by kernel_rfl) (by kernel_rfl) (fun _ _ _ h => h) (Or.inl ⟨by rfl, ?hy3⟩) hHeld ?go3
        case hy3 => (intro w hSw; (try dsimp only at hSw); (try (obtain ⟨z1, z2, z3, z4, z5, z6, z7, z8⟩ := hSw)); go_simp; try rfl)
        case go3 =>
        simp only [Act.put, List.setIfInBounds_toArray, List.set_cons_zero, List.set_cons_succ, List.getElem_toArray, List.getElem_cons_zero, List.getElem_cons_succ]
        refine wpAnyH_take (i := 4) (v := ?val4) rfl (by kernel_rfl) (by kernel_rfl) (by kernel_rfl) (fun _ _ _ h => h) (Or.inl ⟨by rfl, ?hy4⟩) hHeld ?go4
        case hy4 => (intro w hSw; (try dsimp only at hSw); (try (obtain ⟨z1, z2, z3, z4, z5, z6, z7, z8⟩ := hSw)); go_simp; try rfl)
        case go4 =>
        simp only [Act.put, List.setIfInBounds_toArray, List.set_cons_zero, List.set_cons_succ, List.getElem_toArray, List.getElem_cons_zero, List.getElem_cons_succ]
        refine wpAnyH_take (i := 6) (v := ?val6) rfl (by kernel_rfl) (by kernel_rfl) (by kernel_rfl) (fun _ _ _ h => h) (Or.inl ⟨by rfl, ?hy6⟩) hHeld ?go6
        case hy6 => (intro w hSw; (try dsimp only at hSw); (try (obtain ⟨z1, z2, z3, z4, z5, z6, z7, z8⟩ := hSw)); go_simp; try rfl)
        case go6 =>
        simp only [Act.put, List.setIfInBounds_toArray, List.set_cons_zero, List.set_cons_succ, List.getElem_toArray, List.getElem_cons_zero, List.getElem_cons_succ]
        refine wpAnyH_ready (rs := [5, 7]) (by kernel_rfl) (by simp) ?_
        refine AllReadyH.cons (o := { dst := some 123, op := Op.buildSlice 32 1 #[(0, Operand.tmp 122)], type := 32, pos := "ref.go:698", after := #[{ on := 4, ground := Ground.data }, { on := 1, ground := Ground.guard }], guard := some (1, true) }) rfl (fun K hK => ?_) (AllReadyH.cons (o := { dst := some 125, op := Op.buildSlice 32 1 #[(0, Operand.tmp 124)], type := 32, pos := "ref.go:698", after := #[{ on := 6, ground := Ground.data }, { on := 1, ground := Ground.guard }], guard := some (1, true) }) rfl (fun K hK => ?_) AllReadyH.nil)
        · skip
          go_simp
          have hbA : Below W2.heap.size W2 (W2.drew.alloc (.cells #[.int .i64 xd] 3)) := (Below.refl W2.heap.size W2).drew.alloc (by simp) _
          have hHeld := HCel.out _ hbA
          refine hK _ _ hHeld (fun _ => ?_)
          clear hK K
          refine wpAnyH_ready (rs := [7]) (by kernel_rfl) (by simp) ?_
          refine AllReadyH.cons (o := { dst := some 125, op := Op.buildSlice 32 1 #[(0, Operand.tmp 124)], type := 32, pos := "ref.go:698", after := #[{ on := 6, ground := Ground.data }, { on := 1, ground := Ground.guard }], guard := some (1, true) }) rfl (fun K hK => ?_) AllReadyH.nil
          go_simp
          have hbB : Below W2.heap.size W2 ((W2.drew.alloc (.cells #[.int .i64 xd] 3)).alloc (.cells #[.int .i64 1] 3)) := hbA.alloc (by simp) _
          have hHeld := HCel.out _ hbB
          refine hK _ _ hHeld (fun _ => ?_)
          clear hK K
          refine wpAnyH_ready (rs := [8]) (by kernel_rfl) (by simp) ?_
          refine AllReadyH.cons (o := { dst := some 126, op := Op.call { callee := Callee.value (Operand.func 38), args := #[Operand.tmp 120, Operand.tmp 123, Operand.tmp 125], argTypes := #[57, 32, 32] }, type := 4, pos := "ref.go:698", after := #[{ on := 2, ground := Ground.data }, { on := 5, ground := Ground.data }, { on := 7, ground := Ground.data }, { on := 1, ground := Ground.chain }, { on := 1, ground := Ground.guard }], guard := some (1, true) }) rfl (fun K hK => ?_) AllReadyH.nil
          go_simp
          refine (HT1.out ((W2.drew.alloc (.cells #[.int .i64 xd] 3)).alloc (.cells #[.int .i64 1] 3)) (W2.heap.size) (W2.heap.size + 1) hbB al_first al_last).mono ?_
          rintro e w1 ⟨rfl, hb1⟩
          have hHeld := HCel.out w1 hb1
          refine hK _ _ hHeld (fun _ => ?_)
          clear hK K hbA hbB
          refine wpAnyH_take (i := 9) (v := .bool false) rfl (by kernel_rfl) (by kernel_rfl) (by kernel_rfl) (fun _ _ _ h => h) (Or.inl ⟨by rfl, ?hy9⟩) hHeld ?go9
          case hy9 => (intro w hSw; (try dsimp only at hSw); (try (obtain ⟨z1, z2, z3, z4, z5, z6, z7, z8⟩ := hSw)); go_simp; try rfl)
          case go9 =>
          simp only [Act.put, List.setIfInBounds_toArray, List.set_cons_zero, List.set_cons_succ, List.getElem_toArray, List.getElem_cons_zero, List.getElem_cons_succ]
          refine wpAnyH_take (i := 10) (v := .bool false) rfl (by kernel_rfl) (by kernel_rfl) (by kernel_rfl) (fun _ _ _ h => h) (Or.inl ⟨by rfl, ?hy10⟩) hHeld ?go10
          case hy10 => (intro w hSw; (try dsimp only at hSw); (try (obtain ⟨z1, z2, z3, z4, z5, z6, z7, z8⟩ := hSw)); go_simp; try rfl)
          case go10 =>
          simp only [Act.put, List.setIfInBounds_toArray, List.set_cons_zero, List.set_cons_succ, List.getElem_toArray, List.getElem_cons_zero, List.getElem_cons_succ]
          refine wpAnyH_take (i := 11) (v := undef) rfl (by kernel_rfl) (by kernel_rfl) (by kernel_rfl) (fun _ _ _ h => h) (Or.inr ⟨by rfl, rfl⟩) hHeld ?go11
          case go11 =>
          simp only [Act.put, List.setIfInBounds_toArray, List.set_cons_zero, List.set_cons_succ, List.getElem_toArray, List.getElem_cons_zero, List.getElem_cons_succ]
          refine wpAnyH_take (i := 12) (v := undef) rfl (by kernel_rfl) (by kernel_rfl) (by kernel_rfl) (fun _ _ _ h => h) (Or.inr ⟨by rfl, rfl⟩) hHeld ?go12
          case go12 =>
          simp only [Act.put, List.setIfInBounds_toArray, List.set_cons_zero, List.set_cons_succ, List.getElem_toArray, List.getElem_cons_zero, List.getElem_cons_succ]
          refine wpAnyH_take (i := 13) (v := undef) rfl (by kernel_rfl) (by kernel_rfl) (by kernel_rfl) (fun _ _ _ h => h) (Or.inr ⟨by rfl, rfl⟩) hHeld ?go13
          case go13 =>
          simp only [Act.put, List.setIfInBounds_toArray, List.set_cons_zero, List.set_cons_succ, List.getElem_toArray, List.getElem_cons_zero, List.getElem_cons_succ]
          refine wpAnyH_take (i := 14) (v := undef) rfl (by kernel_rfl) (by kernel_rfl) (by kernel_rfl) (fun _ _ _ h => h) (Or.inr ⟨by rfl, rfl⟩) hHeld ?go14
          case go14 =>
          simp only [Act.put, List.setIfInBounds_toArray, List.set_cons_zero, List.set_cons_succ, List.getElem_toArray, List.getElem_cons_zero, List.getElem_cons_succ]
          refine wpAnyH_take (i := 15) (v := undef) rfl (by kernel_rfl) (by kernel_rfl) (by kernel_rfl) (fun _ _ _ h => h) (Or.inr ⟨by rfl, rfl⟩) hHeld ?go15
          case go15 =>
          simp only [Act.put, List.setIfInBounds_toArray, List.set_cons_zero, List.set_cons_succ, List.getElem_toArray, List.getElem_cons_zero, List.getElem_cons_succ]
          refine wpAnyH_take (i := 16) (v := undef) rfl (by kernel_rfl) (by kernel_rfl) (by kernel_rfl) (fun _ _ _ h => h) (Or.inr ⟨by rfl, rfl⟩) hHeld ?go16
          case go16 =>
          simp only [Act.put, List.setIfInBounds_toArray, List.set_cons_zero, List.set_cons_succ, List.getElem_toArray, List.getElem_cons_zero, List.getElem_cons_succ]
          refine wpAnyH_take (i := 17) (v := undef) rfl (by kernel_rfl) (by kernel_rfl) (by kernel_rfl) (fun _ _ _ h => h) (Or.inr ⟨by rfl, rfl⟩) hHeld ?go17
          case go17 =>
          simp only [Act.put, List.setIfInBounds_toArray, List.set_cons_zero, List.set_cons_succ, List.getElem_toArray, List.getElem_cons_zero, List.getElem_cons_succ]
          refine wpAnyH_take (i := 18) (v := undef) rfl (by kernel_rfl) (by kernel_rfl) (by kernel_rfl) (fun _ _ _ h => h) (Or.inr ⟨by rfl, rfl⟩) hHeld ?go18
          case go18 =>
          simp only [Act.put, List.setIfInBounds_toArray, List.set_cons_zero, List.set_cons_succ, List.getElem_toArray, List.getElem_cons_zero, List.getElem_cons_succ]
          refine wpAnyH_take (i := 19) (v := undef) rfl (by kernel_rfl) (by kernel_rfl) (by kernel_rfl) (fun _ _ _ h => h) (Or.inr ⟨by rfl, rfl⟩) hHeld ?go19
          case go19 =>
          simp only [Act.put, List.setIfInBounds_toArray, List.set_cons_zero, List.set_cons_succ, List.getElem_toArray, List.getElem_cons_zero, List.getElem_cons_succ]
          refine wpAnyH_take (i := 20) (v := undef) rfl (by kernel_rfl) (by kernel_rfl) (by kernel_rfl) (fun _ _ _ h => h) (Or.inr ⟨by rfl, rfl⟩) hHeld ?go20
          case go20 =>
          simp only [Act.put, List.setIfInBounds_toArray, List.set_cons_zero, List.set_cons_succ, List.getElem_toArray, List.getElem_cons_zero, List.getElem_cons_succ]
          refine wpAnyH_take (i := 21) (v := undef) rfl (by kernel_rfl) (by kernel_rfl) (by kernel_rfl) (fun _ _ _ h => h) (Or.inr ⟨by rfl, rfl⟩) hHeld ?go21
          case go21 =>
          simp only [Act.put, List.setIfInBounds_toArray, List.set_cons_zero, List.set_cons_succ, List.getElem_toArray, List.getElem_cons_zero, List.getElem_cons_succ]
          refine wpAnyH_take (i := 22) (v := undef) rfl (by kernel_rfl) (by kernel_rfl) (by kernel_rfl) (fun _ _ _ h => h) (Or.inr ⟨by rfl, rfl⟩) hHeld ?go22
          case go22 =>
          simp only [Act.put, List.setIfInBounds_toArray, List.set_cons_zero, List.set_cons_succ, List.getElem_toArray, List.getElem_cons_zero, List.getElem_cons_succ]
          refine wpAnyH_take (i := 23) (v := undef) rfl (by kernel_rfl) (by kernel_rfl) (by kernel_rfl) (fun _ _ _ h => h) (Or.inr ⟨by rfl, rfl⟩) hHeld ?go23
          case go23 =>
          simp only [Act.put, List.setIfInBounds_toArray, List.set_cons_zero, List.set_cons_succ, List.getElem_toArray, List.getElem_cons_zero, List.getElem_cons_succ]
          refine wpAnyH_take (i := 24) (v := undef) rfl (by kernel_rfl) (by kernel_rfl) (by kernel_rfl) (fun _ _ _ h => h) (Or.inr ⟨by rfl, rfl⟩) hHeld ?go24
          case go24 =>
          simp only [Act.put, List.setIfInBounds_toArray, List.set_cons_zero, List.set_cons_succ, List.getElem_toArray, List.getElem_cons_zero, List.getElem_cons_succ]
          refine wpAnyH_take (i := 25) (v := undef) rfl (by kernel_rfl) (by kernel_rfl) (by kernel_rfl) (fun _ _ _ h => h) (Or.inr ⟨by rfl, rfl⟩) hHeld ?go25
          case go25 =>
          simp only [Act.put, List.setIfInBounds_toArray, List.set_cons_zero, List.set_cons_succ, List.getElem_toArray, List.getElem_cons_zero, List.getElem_cons_succ]
          refine wpAnyH_take (i := 26) (v := .bool false) rfl (by kernel_rfl) (by kernel_rfl) (by kernel_rfl) (fun _ _ _ h => h) (Or.inl ⟨by rfl, ?hy26⟩) hHeld ?go26
          case hy26 => (intro w hSw; (try dsimp only at hSw); (try (obtain ⟨z1, z2, z3, z4, z5, z6, z7, z8⟩ := hSw)); go_simp; try rfl)
          case go26 =>
          simp only [Act.put, List.setIfInBounds_toArray, List.set_cons_zero, List.set_cons_succ, List.getElem_toArray, List.getElem_cons_zero, List.getElem_cons_succ]
          refine wpAnyH_ready (rs := [27]) (by kernel_rfl) (by simp) ?_
          refine AllReadyH.cons (o := { dst := some 10, op := Op.assign (Operand.tmp 144), type := 4, pos := "ref.go:698", after := #[{ on := 26, ground := Ground.data }, { on := 25, ground := Ground.chain }, { on := 0, ground := Ground.phase }, { on := 1, ground := Ground.phase }, { on := 2, ground := Ground.phase }, { on := 3, ground := Ground.phase }, { on := 4, ground := Ground.phase }, { on := 5, ground := Ground.phase }, { on := 6, ground := Ground.phase }, { on := 7, ground := Ground.phase }, { on := 8, ground := Ground.phase }, { on := 9, ground := Ground.phase }, { on := 10, ground := Ground.phase }, { on := 11, ground := Ground.phase }, { on := 12, ground := Ground.phase }, { on := 13, ground := Ground.phase }, { on := 14, ground := Ground.phase }, { on := 15, ground := Ground.phase }, { on := 16, ground := Ground.phase }, { on := 17, ground := Ground.phase }, { on := 18, ground := Ground.phase }, { on := 19, ground := Ground.phase }, { on := 20, ground := Ground.phase }, { on := 21, ground := Ground.phase }, { on := 22, ground := Ground.phase }, { on := 23, ground := Ground.phase }, { on := 24, ground := Ground.phase }, { on := 25, ground := Ground.phase }, { on := 26, ground := Ground.phase }], guard := none }) rfl (fun K hK => ?_) AllReadyH.nil
          go_simp
          refine hK _ _ hHeld (fun _ => ?_)
          clear hK K
          refine wpAnyH_done (by kernel_rfl) ?_ _
          have HZ : Hid (Below W2.heap.size W2 w1) := hb1
          clear hHeld hb1
          go_wp2
          exact HX.out _ HZ.out
        · skip
          go_simp
          have hbA : Below W2.heap.size W2 (W2.drew.alloc (.cells #[.int .i64 1] 3)) := (Below.refl W2.heap.size W2).drew.alloc (by simp) _
          have hHeld := HCel.out _ hbA
          refine hK _ _ hHeld (fun _ => ?_)
          clear hK K
          refine wpAnyH_ready (rs := [5]) (by kernel_rfl) (by simp) ?_
          refine AllReadyH.cons (o := { dst := some 123, op := Op.buildSlice 32 1 #[(0, Operand.tmp 122)], type := 32, pos := "ref.go:698", after := #[{ on := 4, ground := Ground.data }, { on := 1, ground := Ground.guard }], guard := some (1, true) }) rfl (fun K hK => ?_) AllReadyH.nil
          go_simp
          have hbB : Below W2.heap.size W2 ((W2.drew.alloc (.cells #[.int .i64 1] 3)).alloc (.cells #[.int .i64 xd] 3)) := hbA.alloc (by simp) _
          have hHeld := HCel.out _ hbB
          refine hK _ _ hHeld (fun _ => ?_)
          clear hK K
          refine wpAnyH_ready (rs := [8]) (by kernel_rfl) (by simp) ?_
          refine AllReadyH.cons (o := { dst := some 126, op := Op.call { callee := Callee.value (Operand.func 38), args := #[Operand.tmp 120, Operand.tmp 123, Operand.tmp 125], argTypes := #[57, 32, 32] }, type := 4, pos := "ref.go:698", after := #[{ on := 2, ground := Ground.data }, { on := 5, ground := Ground.data }, { on := 7, ground := Ground.data }, { on := 1, ground := Ground.chain }, { on := 1, ground := Ground.guard }], guard := some (1, true) }) rfl (fun K hK => ?_) AllReadyH.nil
          go_simp
          refine (HT1.out ((W2.drew.alloc (.cells #[.int .i64 1] 3)).alloc (.cells #[.int .i64 xd] 3)) (W2.heap.size + 1) (W2.heap.size) hbB al_last al_first).mono ?_
          rintro e w1 ⟨rfl, hb1⟩
          have hHeld := HCel.out w1 hb1
          refine hK _ _ hHeld (fun _ => ?_)
          clear hK K hbA hbB
          refine wpAnyH_take (i := 9) (v := .bool false) rfl (by kernel_rfl) (by kernel_rfl) (by kernel_rfl) (fun _ _ _ h => h) (Or.inl ⟨by rfl, ?hy9⟩) hHeld ?go9
          case hy9 => (intro w hSw; (try dsimp only at hSw); (try (obtain ⟨z1, z2, z3, z4, z5, z6, z7, z8⟩ := hSw)); go_simp; try rfl)
          case go9 =>
          simp only [Act.put, List.setIfInBounds_toArray, List.set_cons_zero, List.set_cons_succ, List.getElem_toArray, List.getElem_cons_zero, List.getElem_cons_succ]
          refine wpAnyH_take (i := 10) (v := .bool false) rfl (by kernel_rfl) (by kernel_rfl) (by kernel_rfl) (fun _ _ _ h => h) (Or.inl ⟨by rfl, ?hy10⟩) hHeld ?go10
          case hy10 => (intro w hSw; (try dsimp only at hSw); (try (obtain ⟨z1, z2, z3, z4, z5, z6, z7, z8⟩ := hSw)); go_simp; try rfl)
          case go10 =>
          simp only [Act.put, List.setIfInBounds_toArray, List.set_cons_zero, List.set_cons_succ, List.getElem_toArray, List.getElem_cons_zero, List.getElem_cons_succ]
          refine wpAnyH_take (i := 11) (v := undef) rfl (by kernel_rfl) (by kernel_rfl) (by kernel_rfl) (fun _ _ _ h => h) (Or.inr ⟨by rfl, rfl⟩) hHeld ?go11
          case go11 =>
          simp only [Act.put, List.setIfInBounds_toArray, List.set_cons_zero, List.set_cons_succ, List.getElem_toArray, List.getElem_cons_zero, List.getElem_cons_succ]
          refine wpAnyH_take (i := 12) (v := undef) rfl (by kernel_rfl) (by kernel_rfl) (by kernel_rfl) (fun _ _ _ h => h) (Or.inr ⟨by rfl, rfl⟩) hHeld ?go12
          case go12 =>
          simp only [Act.put, List.setIfInBounds_toArray, List.set_cons_zero, List.set_cons_succ, List.getElem_toArray, List.getElem_cons_zero, List.getElem_cons_succ]
          refine wpAnyH_take (i := 13) (v := undef) rfl (by kernel_rfl) (by kernel_rfl) (by kernel_rfl) (fun _ _ _ h => h) (Or.inr ⟨by rfl, rfl⟩) hHeld ?go13
          case go13 =>
          simp only [Act.put, List.setIfInBounds_toArray, List.set_cons_zero, List.set_cons_succ, List.getElem_toArray, List.getElem_cons_zero, List.getElem_cons_succ]
          refine wpAnyH_take (i := 14) (v := undef) rfl (by kernel_rfl) (by kernel_rfl) (by kernel_rfl) (fun _ _ _ h => h) (Or.inr ⟨by rfl, rfl⟩) hHeld ?go14
          case go14 =>
          simp only [Act.put, List.setIfInBounds_toArray, List.set_cons_zero, List.set_cons_succ, List.getElem_toArray, List.getElem_cons_zero, List.getElem_cons_succ]
          refine wpAnyH_take (i := 15) (v := undef) rfl (by kernel_rfl) (by kernel_rfl) (by kernel_rfl) (fun _ _ _ h => h) (Or.inr ⟨by rfl, rfl⟩) hHeld ?go15
          case go15 =>
          simp only [Act.put, List.setIfInBounds_toArray, List.set_cons_zero, List.set_cons_succ, List.getElem_toArray, List.getElem_cons_zero, List.getElem_cons_succ]
          refine wpAnyH_take (i := 16) (v := undef) rfl (by kernel_rfl) (by kernel_rfl) (by kernel_rfl) (fun _ _ _ h => h) (Or.inr ⟨by rfl, rfl⟩) hHeld ?go16
          case go16 =>
          simp only [Act.put, List.setIfInBounds_toArray, List.set_cons_zero, List.set_cons_succ, List.getElem_toArray, List.getElem_cons_zero, List.getElem_cons_succ]
          refine wpAnyH_take (i := 17) (v := undef) rfl (by kernel_rfl) (by kernel_rfl) (by kernel_rfl) (fun _ _ _ h => h) (Or.inr ⟨by rfl, rfl⟩) hHeld ?go17
          case go17 =>
          simp only [Act.put, List.setIfInBounds_toArray, List.set_cons_zero, List.set_cons_succ, List.getElem_toArray, List.getElem_cons_zero, List.getElem_cons_succ]
          refine wpAnyH_take (i := 18) (v := undef) rfl (by kernel_rfl) (by kernel_rfl) (by kernel_rfl) (fun _ _ _ h => h) (Or.inr ⟨by rfl, rfl⟩) hHeld ?go18
          case go18 =>
          simp only [Act.put, List.setIfInBounds_toArray, List.set_cons_zero, List.set_cons_succ, List.getElem_toArray, List.getElem_cons_zero, List.getElem_cons_succ]
          refine wpAnyH_take (i := 19) (v := undef) rfl (by kernel_rfl) (by kernel_rfl) (by kernel_rfl) (fun _ _ _ h => h) (Or.inr ⟨by rfl, rfl⟩) hHeld ?go19
          case go19 =>
          simp only [Act.put, List.setIfInBounds_toArray, List.set_cons_zero, List.set_cons_succ, List.getElem_toArray, List.getElem_cons_zero, List.getElem_cons_succ]
          refine wpAnyH_take (i := 20) (v := undef) rfl (by kernel_rfl) (by kernel_rfl) (by kernel_rfl) (fun _ _ _ h => h) (Or.inr ⟨by rfl, rfl⟩) hHeld ?go20
          case go20 =>
          simp only [Act.put, List.setIfInBounds_toArray, List.set_cons_zero, List.set_cons_succ, List.getElem_toArray, List.getElem_cons_zero, List.getElem_cons_succ]
          refine wpAnyH_take (i := 21) (v := undef) rfl (by kernel_rfl) (by kernel_rfl) (by kernel_rfl) (fun _ _ _ h => h) (Or.inr ⟨by rfl, rfl⟩) hHeld ?go21
          case go21 =>
          simp only [Act.put, List.setIfInBounds_toArray, List.set_cons_zero, List.set_cons_succ, List.getElem_toArray, List.getElem_cons_zero, List.getElem_cons_succ]
          refine wpAnyH_take (i := 22) (v := undef) rfl (by kernel_rfl) (by kernel_rfl) (by kernel_rfl) (fun _ _ _ h => h) (Or.inr ⟨by rfl, rfl⟩) hHeld ?go22
          case go22 =>
          simp only [Act.put, List.setIfInBounds_toArray, List.set_cons_zero, List.set_cons_succ, List.getElem_toArray, List.getElem_cons_zero, List.getElem_cons_succ]
          refine wpAnyH_take (i := 23) (v := undef) rfl (by kernel_rfl) (by kernel_rfl) (by kernel_rfl) (fun _ _ _ h => h) (Or.inr ⟨by rfl, rfl⟩) hHeld ?go23
          case go23 =>
          simp only [Act.put, List.setIfInBounds_toArray, List.set_cons_zero, List.set_cons_succ, List.getElem_toArray, List.getElem_cons_zero, List.getElem_cons_succ]
          refine wpAnyH_take (i := 24) (v := undef) rfl (by kernel_rfl) (by kernel_rfl) (by kernel_rfl) (fun _ _ _ h => h) (Or.inr ⟨by rfl, rfl⟩) hHeld ?go24
          case go24 =>
          simp only [Act.put, List.setIfInBounds_toArray, List.set_cons_zero, List.set_cons_succ, List.getElem_toArray, List.getElem_cons_zero, List.getElem_cons_succ]
          refine wpAnyH_take (i := 25) (v := undef) rfl (by kernel_rfl) (by kernel_rfl) (by kernel_rfl) (fun _ _ _ h => h) (Or.inr ⟨by rfl, rfl⟩) hHeld ?go25
          case go25 =>
          simp only [Act.put, List.setIfInBounds_toArray, List.set_cons_zero, List.set_cons_succ, List.getElem_toArray, List.getElem_cons_zero, List.getElem_cons_succ]
          refine wpAnyH_take (i := 26) (v := .bool false) rfl (by kernel_rfl) (by kernel_rfl) (by kernel_rfl) (fun _ _ _ h => h) (Or.inl ⟨by rfl, ?hy26⟩) hHeld ?go26
          case hy26 => (intro w hSw; (try dsimp only at hSw); (try (obtain ⟨z1, z2, z3, z4, z5, z6, z7, z8⟩ := hSw)); go_simp; try rfl)
          case go26 =>
          simp only [Act.put, List.setIfInBounds_toArray, List.set_cons_zero, List.set_cons_succ, List.getElem_toArray, List.getElem_cons_zero, List.getElem_cons_succ]
          refine wpAnyH_ready (rs := [27]) (by kernel_rfl) (by simp) ?_
          refine AllReadyH.cons (o := { dst := some 10, op := Op.assign (Operand.tmp 144), type := 4, pos := "ref.go:698", after := #[{ on := 26, ground := Ground.data }, { on := 25, ground := Ground.chain }, { on := 0, ground := Ground.phase }, { on := 1, ground := Ground.phase }, { on := 2, ground := Ground.phase }, { on := 3, ground := Ground.phase }, { on := 4, ground := Ground.phase }, { on := 5, ground := Ground.phase }, { on := 6, ground := Ground.phase }, { on := 7, ground := Ground.phase }, { on := 8, ground := Ground.phase }, { on := 9, ground := Ground.phase }, { on := 10, ground := Ground.phase }, { on := 11, ground := Ground.phase }, { on := 12, ground := Ground.phase }, { on := 13, ground := Ground.phase }, { on := 14, ground := Ground.phase }, { on := 15, ground := Ground.phase }, { on := 16, ground := Ground.phase }, { on := 17, ground := Ground.phase }, { on := 18, ground := Ground.phase }, { on := 19, ground := Ground.phase }, { on := 20, ground := Ground.phase }, { on := 21, ground := Ground.phase }, { on := 22, ground := Ground.phase }, { on := 23, ground := Ground.phase }, { on := 24, ground := Ground.phase }, { on := 25, ground := Ground.phase }, { on := 26, ground := Ground.phase }], guard := none }) rfl (fun K hK => ?_) AllReadyH.nil
          go_simp
          refine hK _ _ hHeld (fun _ => ?_)
          clear hK K
          refine wpAnyH_done (by kernel_rfl) ?_ _
          have HZ : Hid (Below W2.heap.size W2 w1) := hb1
          clear hHeld hb1
          go_wp2
          exact HX.out _ HZ.out
      | true =>
        have HT1 : Hid (∀ W b1 b2, Below W2.heap.size W2 W → W.heap[b1]? = some (.cells #[.int .i64 xd] 3) → W.heap[b2]? = some (.cells #[.int .i64 1] 3) → Calls Tryd.prog 38 #[.agg #[.string y, .int .i64 pa, .slice qt nt ct, .slice qs ns cs], .slice (some ⟨b1, 0, none⟩) 1 1, .slice (some ⟨b2, 0, none⟩) 1 1] W (fun e w' => e = .returned (.bool true) ∧ Below W2.heap.size W2 w')) := fun W b1 b2 => HT1g.out W b1 b2 true ht1
        have HX : Hid (∀ W, Below W2.heap.size W2 W → G (.returned (.bool (typedB F s.args (GG.types.take pk)))) W) := fun W hb => HFin2.out W2 W _ HB2.out hb (by rw [HSt2.out, ht1]; rfl)
        clear ht1
        go_enter Tryd.func26, Tryd.ntmps26
        go_upto_region 18 with fail
        rw [← hW2]
        clear hW2 lk
        refine wp_region_held_drew (S := fun w' => w'.cell? ⟨w.heap.size, 0, none⟩ = some (.string y) ∧ w'.cell? ⟨w.heap.size, 1, none⟩ = some (.int .i64 pa) ∧ w'.cell? ⟨w.heap.size, 2, none⟩ = some (.slice qt nt ct) ∧ w'.cell? ⟨w.heap.size, 3, none⟩ = some (.slice qs ns cs) ∧ w'.cell? ⟨w.heap.size + 1, 1, none⟩ = some (.int .i64 xd) ∧ w'.cell? ⟨w.heap.size + 1, 9, none⟩ = some (.slice qa na ca) ∧ w'.cell? ⟨gl, p9 + j * 4 + 1, none⟩ = some (.int .i64 (pk : Int)) ∧ w'.cell? ⟨gl, p9 + j * 4 + 2, none⟩ = some (.slice qG nG cG)) (by kernel_rfl) ?_ (fun hHeld => ?_)
        · exact ⟨e1, e2, e3, e4, e5, e6, e7, e8⟩
        refine wpAnyH_take (i := 0) (v := ?val0) rfl (by kernel_rfl) (by kernel_rfl) (by kernel_rfl) (fun _ _ _ h => h) (Or.inl ⟨by rfl, ?hy0⟩) hHeld ?go0
        case hy0 => (intro w hSw; (try dsimp only at hSw); (try (obtain ⟨z1, z2, z3, z4, z5, z6, z7, z8⟩ := hSw)); go_simp; try rfl)
        case go0 =>
        simp only [Act.put, List.setIfInBounds_toArray, List.set_cons_zero, List.set_cons_succ, List.getElem_toArray, List.getElem_cons_zero, List.getElem_cons_succ]
        refine wpAnyH_take (i := 1) (v := ?val1) rfl (by kernel_rfl) (by kernel_rfl) (by kernel_rfl) (fun _ _ _ h => h) (Or.inl ⟨by rfl, ?hy1⟩) hHeld ?go1
        case hy1 => (intro w hSw; (try dsimp only at hSw); (try (obtain ⟨z1, z2, z3, z4, z5, z6, z7, z8⟩ := hSw)); go_simp; try rfl)
        case go1 =>
        simp only [Act.put, List.setIfInBounds_toArray, List.set_cons_zero, List.set_cons_succ, List.getElem_toArray, List.getElem_cons_zero, List.getElem_cons_succ]
        refine wpAnyH_take (i := 2) (v := ?val2) rfl (by kernel_rfl) (by kernel_rfl) (by kernel_rfl) (fun _ _ _ h => h) (Or.inl ⟨by rfl, ?hy2⟩) hHeld ?go2
        case hy2 => (intro w hSw; (try dsimp only at hSw); (try (obtain ⟨z1, z2, z3, z4, z5, z6, z7, z8⟩ := hSw)); go_simp; try rfl)
        case go2 =>
        simp only [Act.put, List.setIfInBounds_toArray, List.set_cons_zero, List.set_cons_succ, List.getElem_toArray, List.getElem_cons_zero, List.getElem_cons_succ]
        refine wpAnyH_take (i := 3) (v := ?val3) rfl (by kernel_rfl) (by kernel_rfl) (by kernel_rfl) (fun _ _ _ h => h) (Or.inl ⟨by rfl, ?hy3⟩) hHeld ?go3
        case hy3 => (intro w hSw; (try dsimp only at hSw); (try (obtain ⟨z1, z2, z3, z4, z5, z6, z7, z8⟩ := hSw)); go_simp; try rfl)
        case go3 =>
        simp only [Act.put, List.setIfInBounds_toArray, List.set_cons_zero, List.set_cons_succ, List.getElem_toArray, List.getElem_cons_zero, List.getElem_cons_succ]
        refine wpAnyH_take (i := 4) (v := ?val4) rfl (by kernel_rfl) (by kernel_rfl) (by kernel_rfl) (fun _ _ _ h => h) (Or.inl ⟨by rfl, ?hy4⟩) hHeld ?go4
        case hy4 => (intro w hSw; (try dsimp only at hSw); (try (obtain ⟨z1, z2, z3, z4, z5, z6, z7, z8⟩ := hSw)); go_simp; try rfl)
        case go4 =>
        simp only [Act.put, List.setIfInBounds_toArray, List.set_cons_zero, List.set_cons_succ, List.getElem_toArray, List.getElem_cons_zero, List.getElem_cons_succ]
        refine wpAnyH_take (i := 6) (v := ?val6) rfl (by kernel_rfl) (by kernel_rfl) (by kernel_rfl) (fun _ _ _ h => h) (Or.inl ⟨by rfl, ?hy6⟩) hHeld ?go6
        case hy6 => (intro w hSw; (try dsimp only at hSw); (try (obtain ⟨z1, z2, z3, z4, z5, z6, z7, z8⟩ := hSw)); go_simp; try rfl)
        case go6 =>
        simp only [Act.put, List.setIfInBounds_toArray, List.set_cons_zero, List.set_cons_succ, List.getElem_toArray, List.getElem_cons_zero, List.getElem_cons_succ]
        refine wpAnyH_ready (rs := [5, 7]) (by kernel_rfl) (by simp) ?_
        refine AllReadyH.cons (o := { dst := some 123, op := Op.buildSlice 32 1 #[(0, Operand.tmp 122)], type := 32, pos := "ref.go:698", after := #[{ on := 4, ground := Ground.data }, { on := 1, ground := Ground.guard }], guard := some (1, true) }) rfl (fun K hK => ?_) (AllReadyH.cons (o := { dst := some 125, op := Op.buildSlice 32 1 #[(0, Operand.tmp 124)], type := 32, pos := "ref.go:698", after := #[{ on := 6, ground := Ground.data }, { on := 1, ground := Ground.guard }], guard := some (1, true) }) rfl (fun K hK => ?_) AllReadyH.nil)
        · skip
          go_simp
          have hbA : Below W2.heap.size W2 (W2.drew.alloc (.cells #[.int .i64 xd] 3)) := (Below.refl W2.heap.size W2).drew.alloc (by simp) _
          have hHeld := HCel.out _ hbA
          refine hK _ _ hHeld (fun _ => ?_)
          clear hK K
          refine wpAnyH_ready (rs := [7]) (by kernel_rfl) (by simp) ?_
          refine AllReadyH.cons (o := { dst := some 125, op := Op.buildSlice 32 1 #[(0, Operand.tmp 124)], type := 32, pos := "ref.go:698", after := #[{ on := 6, ground := Ground.data }, { on := 1, ground := Ground.guard }], guard := some (1, true) }) rfl (fun K hK => ?_) AllReadyH.nil
          go_simp
          have hbB : Below W2.heap.size W2 ((W2.drew.alloc (.cells #[.int .i64 xd] 3)).alloc (.cells #[.int .i64 1] 3)) := hbA.alloc (by simp) _
          have hHeld := HCel.out _ hbB
          refine hK _ _ hHeld (fun _ => ?_)
          clear hK K
          refine wpAnyH_ready (rs := [8]) (by kernel_rfl) (by simp) ?_
          refine AllReadyH.cons (o := { dst := some 126, op := Op.call { callee := Callee.value (Operand.func 38), args := #[Operand.tmp 120, Operand.tmp 123, Operand.tmp 125], argTypes := #[57, 32, 32] }, type := 4, pos := "ref.go:698", after := #[{ on := 2, ground := Ground.data }, { on := 5, ground := Ground.data }, { on := 7, ground := Ground.data }, { on := 1, ground := Ground.chain }, { on := 1, ground := Ground.guard }], guard := some (1, true) }) rfl (fun K hK => ?_) AllReadyH.nil
          go_simp
          refine (HT1.out ((W2.drew.alloc (.cells #[.int .i64 xd] 3)).alloc (.cells #[.int .i64 1] 3)) (W2.heap.size) (W2.heap.size + 1) hbB al_first al_last).mono ?_
          rintro e w1 ⟨rfl, hb1⟩
          have hHeld := HCel.out w1 hb1
          refine hK _ _ hHeld (fun _ => ?_)
          clear hK K hbA hbB
          refine wpAnyH_take (i := 9) (v := .bool true) rfl (by kernel_rfl) (by kernel_rfl) (by kernel_rfl) (fun _ _ _ h => h) (Or.inl ⟨by rfl, ?hy9⟩) hHeld ?go9
          case hy9 => (intro w hSw; (try dsimp only at hSw); (try (obtain ⟨z1, z2, z3, z4, z5, z6, z7, z8⟩ := hSw)); go_simp; try rfl)
          case go9 =>
          simp only [Act.put, List.setIfInBounds_toArray, List.set_cons_zero, List.set_cons_succ, List.getElem_toArray, List.getElem_cons_zero, List.getElem_cons_succ]
          refine wpAnyH_take (i := 10) (v := .bool true) rfl (by kernel_rfl) (by kernel_rfl) (by kernel_rfl) (fun _ _ _ h => h) (Or.inl ⟨by rfl, ?hy10⟩) hHeld ?go10
          case hy10 => (intro w hSw; (try dsimp only at hSw); (try (obtain ⟨z1, z2, z3, z4, z5, z6, z7, z8⟩ := hSw)); go_simp; try rfl)
          case go10 =>
          simp only [Act.put, List.setIfInBounds_toArray, List.set_cons_zero, List.set_cons_succ, List.getElem_toArray, List.getElem_cons_zero, List.getElem_cons_succ]
          refine wpAnyH_take (i := 11) (v := ?val11) rfl (by kernel_rfl) (by kernel_rfl) (by kernel_rfl) (fun _ _ _ h => h) (Or.inl ⟨by rfl, ?hy11⟩) hHeld ?go11
          case hy11 => (intro w hSw; (try dsimp only at hSw); (try (obtain ⟨z1, z2, z3, z4, z5, z6, z7, z8⟩ := hSw)); go_simp; try rfl)
          case go11 =>
          simp only [Act.put, List.setIfInBounds_toArray, List.set_cons_zero, List.set_cons_succ, List.getElem_toArray, List.getElem_cons_zero, List.getElem_cons_succ]
          refine wpAnyH_take (i := 12) (v := ?val12) rfl (by kernel_rfl) (by kernel_rfl) (by kernel_rfl) (fun _ _ _ h => h) (Or.inl ⟨by rfl, ?hy12⟩) hHeld ?go12
          case hy12 => (intro w hSw; (try dsimp only at hSw); (try (obtain ⟨z1, z2, z3, z4, z5, z6, z7, z8⟩ := hSw)); go_simp; try rfl)
          case go12 =>
          simp only [Act.put, List.setIfInBounds_toArray, List.set_cons_zero, List.set_cons_succ, List.getElem_toArray, List.getElem_cons_zero, List.getElem_cons_succ]
          refine wpAnyH_take (i := 13) (v := ?val13) rfl (by kernel_rfl) (by kernel_rfl) (by kernel_rfl) (fun _ _ _ h => h) (Or.inl ⟨by rfl, ?hy13⟩) hHeld ?go13
          case hy13 => (intro w hSw; (try dsimp only at hSw); (try (obtain ⟨z1, z2, z3, z4, z5, z6, z7, z8⟩ := hSw)); go_simp; try rfl)
          case go13 =>
          simp only [Act.put, List.setIfInBounds_toArray, List.set_cons_zero, List.set_cons_succ, List.getElem_toArray, List.getElem_cons_zero, List.getElem_cons_succ]
          refine wpAnyH_take (i := 14) (v := ?val14) rfl (by kernel_rfl) (by kernel_rfl) (by kernel_rfl) (fun _ _ _ h => h) (Or.inl ⟨by rfl, ?hy14⟩) hHeld ?go14
          case hy14 => (intro w hSw; (try dsimp only at hSw); (try (obtain ⟨z1, z2, z3, z4, z5, z6, z7, z8⟩ := hSw)); go_simp; try rfl)
          case go14 =>
          simp only [Act.put, List.setIfInBounds_toArray, List.set_cons_zero, List.set_cons_succ, List.getElem_toArray, List.getElem_cons_zero, List.getElem_cons_succ]
          refine wpAnyH_take (i := 15) (v := ?val15) rfl (by kernel_rfl) (by kernel_rfl) (by kernel_rfl) (fun _ _ _ h => h) (Or.inl ⟨by rfl, ?hy15⟩) hHeld ?go15
          case hy15 => (intro w hSw; (try dsimp only at hSw); (try (obtain ⟨z1, z2, z3, z4, z5, z6, z7, z8⟩ := hSw)); go_simp; try rfl)
          case go15 =>
          simp only [Act.put, List.setIfInBounds_toArray, List.set_cons_zero, List.set_cons_succ, List.getElem_toArray, List.getElem_cons_zero, List.getElem_cons_succ]
          refine wpAnyH_take (i := 16) (v := ?val16) rfl (by kernel_rfl) (by kernel_rfl) (by kernel_rfl) (fun _ _ _ h => h) (Or.inl ⟨by rfl, ?hy16⟩) hHeld ?go16
          case hy16 => (intro w hSw; (try dsimp only at hSw); (try (obtain ⟨z1, z2, z3, z4, z5, z6, z7, z8⟩ := hSw)); go_simp; try rfl)
          case go16 =>
          simp only [Act.put, List.setIfInBounds_toArray, List.set_cons_zero, List.set_cons_succ, List.getElem_toArray, List.getElem_cons_zero, List.getElem_cons_succ]
          refine wpAnyH_take (i := 17) (v := ?val17) rfl (by kernel_rfl) (by kernel_rfl) (by kernel_rfl) (fun _ _ _ h => h) (Or.inl ⟨by rfl, ?hy17⟩) hHeld ?go17
          case hy17 => (intro w hSw; (try dsimp only at hSw); (try (obtain ⟨z1, z2, z3, z4, z5, z6, z7, z8⟩ := hSw)); go_simp; try rfl)
          case go17 =>
          simp only [Act.put, List.setIfInBounds_toArray, List.set_cons_zero, List.set_cons_succ, List.getElem_toArray, List.getElem_cons_zero, List.getElem_cons_succ]
          refine wpAnyH_take (i := 18) (v := ?val18) rfl (by kernel_rfl) (by kernel_rfl) (by kernel_rfl) (fun _ _ _ h => h) (Or.inl ⟨by rfl, ?hy18⟩) hHeld ?go18
          case hy18 => (intro w hSw; (try dsimp only at hSw); (try (obtain ⟨z1, z2, z3, z4, z5, z6, z7, z8⟩ := hSw)); go_simp; try rfl)
          case go18 =>
          simp only [Act.put, List.setIfInBounds_toArray, List.set_cons_zero, List.set_cons_succ, List.getElem_toArray, List.getElem_cons_zero, List.getElem_cons_succ]
          refine wpAnyH_take (i := 19) (v := ?val19) rfl (by kernel_rfl) (by kernel_rfl) (by kernel_rfl) (fun _ _ _ h => h) (Or.inl ⟨by rfl, ?hy19⟩) hHeld ?go19
          case hy19 => (intro w hSw; (try dsimp only at hSw); (try (obtain ⟨z1, z2, z3, z4, z5, z6, z7, z8⟩ := hSw)); go_simp; try rfl)
          case go19 =>
          simp only [Act.put, List.setIfInBounds_toArray, List.set_cons_zero, List.set_cons_succ, List.getElem_toArray, List.getElem_cons_zero, List.getElem_cons_succ]
          refine wpAnyH_take (i := 20) (v := ?val20) rfl (by kernel_rfl) (by kernel_rfl) (by kernel_rfl) (fun _ _ _ h => h) (Or.inl ⟨by rfl, ?hy20⟩) hHeld ?go20
          case hy20 => (intro w hSw; (try dsimp only at hSw); (try (obtain ⟨z1, z2, z3, z4, z5, z6, z7, z8⟩ := hSw)); go_simp; try rfl)
          case go20 =>
          simp only [Act.put, List.setIfInBounds_toArray, List.set_cons_zero, List.set_cons_succ, List.getElem_toArray, List.getElem_cons_zero, List.getElem_cons_succ]
          refine wpAnyH_take (i := 21) (v := ?val21) rfl (by kernel_rfl) (by kernel_rfl) (by kernel_rfl) (fun _ _ _ h => h) (Or.inl ⟨by rfl, ?hy21⟩) hHeld ?go21
          case hy21 => (intro w hSw; (try dsimp only at hSw); (try (obtain ⟨z1, z2, z3, z4, z5, z6, z7, z8⟩ := hSw)); go_simp; try rfl)
          case go21 =>
          simp only [Act.put, List.setIfInBounds_toArray, List.set_cons_zero, List.set_cons_succ, List.getElem_toArray, List.getElem_cons_zero, List.getElem_cons_succ]
          refine wpAnyH_take (i := 22) (v := ?val22) rfl (by kernel_rfl) (by kernel_rfl) (by kernel_rfl) (fun _ _ _ h => h) (Or.inl ⟨by rfl, ?hy22⟩) hHeld ?go22
          case hy22 => (intro w hSw; (try dsimp only at hSw); (try (obtain ⟨z1, z2, z3, z4, z5, z6, z7, z8⟩ := hSw)); go_simp; try rfl)
          case go22 =>
          simp only [Act.put, List.setIfInBounds_toArray, List.set_cons_zero, List.set_cons_succ, List.getElem_toArray, List.getElem_cons_zero, List.getElem_cons_succ]
          refine wpAnyH_take (i := 23) (v := ?val23) rfl (by kernel_rfl) (by kernel_rfl) (by kernel_rfl) (fun _ _ _ h => h) (Or.inl ⟨by rfl, ?hy23⟩) hHeld ?go23
          case hy23 => (intro w hSw; (try dsimp only at hSw); (try (obtain ⟨z1, z2, z3, z4, z5, z6, z7, z8⟩ := hSw)); go_simp; try rfl)
          case go23 =>
          simp only [Act.put, List.setIfInBounds_toArray, List.set_cons_zero, List.set_cons_succ, List.getElem_toArray, List.getElem_cons_zero, List.getElem_cons_succ]
          refine wpAnyH_take (i := 24) (v := ?val24) rfl (by kernel_rfl) (by kernel_rfl) (by kernel_rfl) (fun _ _ _ h => h) (Or.inl ⟨by rfl, ?hy24⟩) hHeld ?go24
          case hy24 => (intro w hSw; (try dsimp only at hSw); (try (obtain ⟨z1, z2, z3, z4, z5, z6, z7, z8⟩ := hSw)); go_simp; try rfl)
          case go24 =>
          simp only [Act.put, List.setIfInBounds_toArray, List.set_cons_zero, List.set_cons_succ, List.getElem_toArray, List.getElem_cons_zero, List.getElem_cons_succ]
          refine wpAnyH_ready (rs := [25]) (by kernel_rfl) (by simp) ?_
          refine AllReadyH.cons (o := { dst := some 143, op := Op.call { callee := Callee.value (Operand.func 38), args := #[Operand.tmp 129, Operand.tmp 131, Operand.tmp 142], argTypes := #[57, 32, 32] }, type := 4, pos := "ref.go:698", after := #[{ on := 11, ground := Ground.data }, { on := 13, ground := Ground.data }, { on := 24, ground := Ground.data }, { on := 10, ground := Ground.chain }, { on := 10, ground := Ground.guard }], guard := some (10, true) }) rfl (fun K hK => ?_) AllReadyH.nil
          go_simp
          refine (HT3.out w1 hb1).mono ?_
          rintro e w3 ⟨rfl, hb3⟩
          have hHeld := HCel.out w3 hb3
          refine hK _ _ hHeld (fun _ => ?_)
          clear hK K
          refine wpAnyH_take (i := 26) (v := ?val26) rfl (by kernel_rfl) (by kernel_rfl) (by kernel_rfl) (fun _ _ _ h => h) (Or.inl ⟨by rfl, ?hy26⟩) hHeld ?go26
          case hy26 => (intro w hSw; (try dsimp only at hSw); (try (obtain ⟨z1, z2, z3, z4, z5, z6, z7, z8⟩ := hSw)); go_simp; try rfl)
          case go26 =>
          simp only [Act.put, List.setIfInBounds_toArray, List.set_cons_zero, List.set_cons_succ, List.getElem_toArray, List.getElem_cons_zero, List.getElem_cons_succ]
          refine wpAnyH_ready (rs := [27]) (by kernel_rfl) (by simp) ?_
          refine AllReadyH.cons (o := { dst := some 10, op := Op.assign (Operand.tmp 144), type := 4, pos := "ref.go:698", after := #[{ on := 26, ground := Ground.data }, { on := 25, ground := Ground.chain }, { on := 0, ground := Ground.phase }, { on := 1, ground := Ground.phase }, { on := 2, ground := Ground.phase }, { on := 3, ground := Ground.phase }, { on := 4, ground := Ground.phase }, { on := 5, ground := Ground.phase }, { on := 6, ground := Ground.phase }, { on := 7, ground := Ground.phase }, { on := 8, ground := Ground.phase }, { on := 9, ground := Ground.phase }, { on := 10, ground := Ground.phase }, { on := 11, ground := Ground.phase }, { on := 12, ground := Ground.phase }, { on := 13, ground := Ground.phase }, { on := 14, ground := Ground.phase }, { on := 15, ground := Ground.phase }, { on := 16, ground := Ground.phase }, { on := 17, ground := Ground.phase }, { on := 18, ground := Ground.phase }, { on := 19, ground := Ground.phase }, { on := 20, ground := Ground.phase }, { on := 21, ground := Ground.phase }, { on := 22, ground := Ground.phase }, { on := 23, ground := Ground.phase }, { on := 24, ground := Ground.phase }, { on := 25, ground := Ground.phase }, { on := 26, ground := Ground.phase }], guard := none }) rfl (fun K hK => ?_) AllReadyH.nil
          go_simp
          refine hK _ _ hHeld (fun _ => ?_)
          clear hK K
          refine wpAnyH_done (by kernel_rfl) ?_ _
          have HZ : Hid (Below W2.heap.size W2 w3) := hb3
          clear hHeld hb1 hb3
          go_wp2
          exact HX.out _ HZ.out
        · skip
          go_simp
          have hbA : Below W2.heap.size W2 (W2.drew.alloc (.cells #[.int .i64 1] 3)) := (Below.refl W2.heap.size W2).drew.alloc (by simp) _
          have hHeld := HCel.out _ hbA
          refine hK _ _ hHeld (fun _ => ?_)
          clear hK K
          refine wpAnyH_ready (rs := [5]) (by kernel_rfl) (by simp) ?_
          refine AllReadyH.cons (o := { dst := some 123, op := Op.buildSlice 32 1 #[(0, Operand.tmp 122)], type := 32, pos := "ref.go:698", after := #[{ on := 4, ground := Ground.data }, { on := 1, ground := Ground.guard }], guard := some (1, true) }) rfl (fun K hK => ?_) AllReadyH.nil
          go_simp
          have hbB : Below W2.heap.size W2 ((W2.drew.alloc (.cells #[.int .i64 1] 3)).alloc (.cells #[.int .i64 xd] 3)) := hbA.alloc (by simp) _
          have hHeld := HCel.out _ hbB
          refine hK _ _ hHeld (fun _ => ?_)
          clear hK K
          refine wpAnyH_ready (rs := [8]) (by kernel_rfl) (by simp) ?_
          refine AllReadyH.cons (o := { dst := some 126, op := Op.call { callee := Callee.value (Operand.func 38), args := #[Operand.tmp 120, Operand.tmp 123, Operand.tmp 125], argTypes := #[57, 32, 32] }, type := 4, pos := "ref.go:698", after := #[{ on := 2, ground := Ground.data }, { on := 5, ground := Ground.data }, { on := 7, ground := Ground.data }, { on := 1, ground := Ground.chain }, { on := 1, ground := Ground.guard }], guard := some (1, true) }) rfl (fun K hK => ?_) AllReadyH.nil
          go_simp
          refine (HT1.out ((W2.drew.alloc (.cells #[.int .i64 1] 3)).alloc (.cells #[.int .i64 xd] 3)) (W2.heap.size + 1) (W2.heap.size) hbB al_last al_first).mono ?_
          rintro e w1 ⟨rfl, hb1⟩
          have hHeld := HCel.out w1 hb1
          refine hK _ _ hHeld (fun _ => ?_)
          clear hK K hbA hbB
          refine wpAnyH_take (i := 9) (v := .bool true) rfl (by kernel_rfl) (by kernel_rfl) (by kernel_rfl) (fun _ _ _ h => h) (Or.inl ⟨by rfl, ?hy9⟩) hHeld ?go9
          case hy9 => (intro w hSw; (try dsimp only at hSw); (try (obtain ⟨z1, z2, z3, z4, z5, z6, z7, z8⟩ := hSw)); go_simp; try rfl)
          case go9 =>
          simp only [Act.put, List.setIfInBounds_toArray, List.set_cons_zero, List.set_cons_succ, List.getElem_toArray, List.getElem_cons_zero, List.getElem_cons_succ]
          refine wpAnyH_take (i := 10) (v := .bool true) rfl (by kernel_rfl) (by kernel_rfl) (by kernel_rfl) (fun _ _ _ h => h) (Or.inl ⟨by rfl, ?hy10⟩) hHeld ?go10
          case hy10 => (intro w hSw; (try dsimp only at hSw); (try (obtain ⟨z1, z2, z3, z4, z5, z6, z7, z8⟩ := hSw)); go_simp; try rfl)
          case go10 =>
          simp only [Act.put, List.setIfInBounds_toArray, List.set_cons_zero, List.set_cons_succ, List.getElem_toArray, List.getElem_cons_zero, List.getElem_cons_succ]
          refine wpAnyH_take (i := 11) (v := ?val11) rfl (by kernel_rfl) (by kernel_rfl) (by kernel_rfl) (fun _ _ _ h => h) (Or.inl ⟨by rfl, ?hy11⟩) hHeld ?go11
          case hy11 => (intro w hSw; (try dsimp only at hSw); (try (obtain ⟨z1, z2, z3, z4, z5, z6, z7, z8⟩ := hSw)); go_simp; try rfl)
          case go11 =>
          simp only [Act.put, List.setIfInBounds_toArray, List.set_cons_zero, List.set_cons_succ, List.getElem_toArray, List.getElem_cons_zero, List.getElem_cons_succ]
          refine wpAnyH_take (i := 12) (v := ?val12) rfl (by kernel_rfl) (by kernel_rfl) (by kernel_rfl) (fun _ _ _ h => h) (Or.inl ⟨by rfl, ?hy12⟩) hHeld ?go12
          case hy12 => (intro w hSw; (try dsimp only at hSw); (try (obtain ⟨z1, z2, z3, z4, z5, z6, z7, z8⟩ := hSw)); go_simp; try rfl)
          case go12 =>
          simp only [Act.put, List.setIfInBounds_toArray, List.set_cons_zero, List.set_cons_succ, List.getElem_toArray, List.getElem_cons_zero, List.getElem_cons_succ]
          refine wpAnyH_take (i := 13) (v := ?val13) rfl (by kernel_rfl) (by kernel_rfl) (by kernel_rfl) (fun _ _ _ h => h) (Or.inl ⟨by rfl, ?hy13⟩) hHeld ?go13
          case hy13 => (intro w hSw; (try dsimp only at hSw); (try (obtain ⟨z1, z2, z3, z4, z5, z6, z7, z8⟩ := hSw)); go_simp; try rfl)
          case go13 =>
          simp only [Act.put, List.setIfInBounds_toArray, List.set_cons_zero, List.set_cons_succ, List.getElem_toArray, List.getElem_cons_zero, List.getElem_cons_succ]
          refine wpAnyH_take (i := 14) (v := ?val14) rfl (by kernel_rfl) (by kernel_rfl) (by kernel_rfl) (fun _ _ _ h => h) (Or.inl ⟨by rfl, ?hy14⟩) hHeld ?go14
          case hy14 => (intro w hSw; (try dsimp only at hSw); (try (obtain ⟨z1, z2, z3, z4, z5, z6, z7, z8⟩ := hSw)); go_simp; try rfl)
          case go14 =>
          simp only [Act.put, List.setIfInBounds_toArray, List.set_cons_zero, List.set_cons_succ, List.getElem_toArray, List.getElem_cons_zero, List.getElem_cons_succ]
          refine wpAnyH_take (i := 15) (v := ?val15) rfl (by kernel_rfl) (by kernel_rfl) (by kernel_rfl) (fun _ _ _ h => h) (Or.inl ⟨by rfl, ?hy15⟩) hHeld ?go15
          case hy15 => (intro w hSw; (try dsimp only at hSw); (try (obtain ⟨z1, z2, z3, z4, z5, z6, z7, z8⟩ := hSw)); go_simp; try rfl)
          case go15 =>
          simp only [Act.put, List.setIfInBounds_toArray, List.set_cons_zero, List.set_cons_succ, List.getElem_toArray, List.getElem_cons_zero, List.getElem_cons_succ]
          refine wpAnyH_take (i := 16) (v := ?val16) rfl (by kernel_rfl) (by kernel_rfl) (by kernel_rfl) (fun _ _ _ h => h) (Or.inl ⟨by rfl, ?hy16⟩) hHeld ?go16
          case hy16 => (intro w hSw; (try dsimp only at hSw); (try (obtain ⟨z1, z2, z3, z4, z5, z6, z7, z8⟩ := hSw)); go_simp; try rfl)
          case go16 =>
          simp only [Act.put, List.setIfInBounds_toArray, List.set_cons_zero, List.set_cons_succ, List.getElem_toArray, List.getElem_cons_zero, List.getElem_cons_succ]
          refine wpAnyH_take (i := 17) (v := ?val17) rfl (by kernel_rfl) (by kernel_rfl) (by kernel_rfl) (fun _ _ _ h => h) (Or.inl ⟨by rfl, ?hy17⟩) hHeld ?go17
          case hy17 => (intro w hSw; (try dsimp only at hSw); (try (obtain ⟨z1, z2, z3, z4, z5, z6, z7, z8⟩ := hSw)); go_simp; try rfl)
          case go17 =>
          simp only [Act.put, List.setIfInBounds_toArray, List.set_cons_zero, List.set_cons_succ, List.getElem_toArray, List.getElem_cons_zero, List.getElem_cons_succ]
          refine wpAnyH_take (i := 18) (v := ?val18) rfl (by kernel_rfl) (by kernel_rfl) (by kernel_rfl) (fun _ _ _ h => h) (Or.inl ⟨by rfl, ?hy18⟩) hHeld ?go18
          case hy18 => (intro w hSw; (try dsimp only at hSw); (try (obtain ⟨z1, z2, z3, z4, z5, z6, z7, z8⟩ := hSw)); go_simp; try rfl)
          case go18 =>
          simp only [Act.put, List.setIfInBounds_toArray, List.set_cons_zero, List.set_cons_succ, List.getElem_toArray, List.getElem_cons_zero, List.getElem_cons_succ]
          refine wpAnyH_take (i := 19) (v := ?val19) rfl (by kernel_rfl) (by kernel_rfl) (by kernel_rfl) (fun _ _ _ h => h) (Or.inl ⟨by rfl, ?hy19⟩) hHeld ?go19
          case hy19 => (intro w hSw; (try dsimp only at hSw); (try (obtain ⟨z1, z2, z3, z4, z5, z6, z7, z8⟩ := hSw)); go_simp; try rfl)
          case go19 =>
          simp only [Act.put, List.setIfInBounds_toArray, List.set_cons_zero, List.set_cons_succ, List.getElem_toArray, List.getElem_cons_zero, List.getElem_cons_succ]
          refine wpAnyH_take (i := 20) (v := ?val20) rfl (by kernel_rfl) (by kernel_rfl) (by kernel_rfl) (fun _ _ _ h => h) (Or.inl ⟨by rfl, ?hy20⟩) hHeld ?go20
          case hy20 => (intro w hSw; (try dsimp only at hSw); (try (obtain ⟨z1, z2, z3, z4, z5, z6, z7, z8⟩ := hSw)); go_simp; try rfl)
          case go20 =>
          simp only [Act.put, List.setIfInBounds_toArray, List.set_cons_zero, List.set_cons_succ, List.getElem_toArray, List.getElem_cons_zero, List.getElem_cons_succ]
          refine wpAnyH_take (i := 21) (v := ?val21) rfl (by kernel_rfl) (by kernel_rfl) (by kernel_rfl) (fun _ _ _ h => h) (Or.inl ⟨by rfl, ?hy21⟩) hHeld ?go21
          case hy21 => (intro w hSw; (try dsimp only at hSw); (try (obtain ⟨z1, z2, z3, z4, z5, z6, z7, z8⟩ := hSw)); go_simp; try rfl)
          case go21 =>
          simp only [Act.put, List.setIfInBounds_toArray, List.set_cons_zero, List.set_cons_succ, List.getElem_toArray, List.getElem_cons_zero, List.getElem_cons_succ]
          refine wpAnyH_take (i := 22) (v := ?val22) rfl (by kernel_rfl) (by kernel_rfl) (by kernel_rfl) (fun _ _ _ h => h) (Or.inl ⟨by rfl, ?hy22⟩) hHeld ?go22
          case hy22 => (intro w hSw; (try dsimp only at hSw); (try (obtain ⟨z1, z2, z3, z4, z5, z6, z7, z8⟩ := hSw)); go_simp; try rfl)
          case go22 =>
          simp only [Act.put, List.setIfInBounds_toArray, List.set_cons_zero, List.set_cons_succ, List.getElem_toArray, List.getElem_cons_zero, List.getElem_cons_succ]
          refine wpAnyH_take (i := 23) (v := ?val23) rfl (by kernel_rfl) (by kernel_rfl) (by kernel_rfl) (fun _ _ _ h => h) (Or.inl ⟨by rfl, ?hy23⟩) hHeld ?go23
          case hy23 => (intro w hSw; (try dsimp only at hSw); (try (obtain ⟨z1, z2, z3, z4, z5, z6, z7, z8⟩ := hSw)); go_simp; try rfl)
          case go23 =>
          simp only [Act.put, List.setIfInBounds_toArray, List.set_cons_zero, List.set_cons_succ, List.getElem_toArray, List.getElem_cons_zero, List.getElem_cons_succ]
          refine wpAnyH_take (i := 24) (v := ?val24) rfl (by kernel_rfl) (by kernel_rfl) (by kernel_rfl) (fun _ _ _ h => h) (Or.inl ⟨by rfl, ?hy24⟩) hHeld ?go24
          case hy24 => (intro w hSw; (try dsimp only at hSw); (try (obtain ⟨z1, z2, z3, z4, z5, z6, z7, z8⟩ := hSw)); go_simp; try rfl)
          case go24 =>
          simp only [Act.put, List.setIfInBounds_toArray, List.set_cons_zero, List.set_cons_succ, List.getElem_toArray, List.getElem_cons_zero, List.getElem_cons_succ]
          refine wpAnyH_ready (rs := [25]) (by kernel_rfl) (by simp) ?_
          refine AllReadyH.cons (o := { dst := some 143, op := Op.call { callee := Callee.value (Operand.func 38), args := #[Operand.tmp 129, Operand.tmp 131, Operand.tmp 142], argTypes := #[57, 32, 32] }, type := 4, pos := "ref.go:698", after := #[{ on := 11, ground := Ground.data }, { on := 13, ground := Ground.data }, { on := 24, ground := Ground.data }, { on := 10, ground := Ground.chain }, { on := 10, ground := Ground.guard }], guard := some (10, true) }) rfl (fun K hK => ?_) AllReadyH.nil
          go_simp
          refine (HT3.out w1 hb1).mono ?_
          rintro e w3 ⟨rfl, hb3⟩
          have hHeld := HCel.out w3 hb3
          refine hK _ _ hHeld (fun _ => ?_)
          clear hK K
          refine wpAnyH_take (i := 26) (v := ?val26) rfl (by kernel_rfl) (by kernel_rfl) (by kernel_rfl) (fun _ _ _ h => h) (Or.inl ⟨by rfl, ?hy26⟩) hHeld ?go26
          case hy26 => (intro w hSw; (try dsimp only at hSw); (try (obtain ⟨z1, z2, z3, z4, z5, z6, z7, z8⟩ := hSw)); go_simp; try rfl)
          case go26 =>
          simp only [Act.put, List.setIfInBounds_toArray, List.set_cons_zero, List.set_cons_succ, List.getElem_toArray, List.getElem_cons_zero, List.getElem_cons_succ]
          refine wpAnyH_ready (rs := [27]) (by kernel_rfl) (by simp) ?_
          refine AllReadyH.cons (o := { dst := some 10, op := Op.assign (Operand.tmp 144), type := 4, pos := "ref.go:698", after := #[{ on := 26, ground := Ground.data }, { on := 25, ground := Ground.chain }, { on := 0, ground := Ground.phase }, { on := 1, ground := Ground.phase }, { on := 2, ground := Ground.phase }, { on := 3, ground := Ground.phase }, { on := 4, ground := Ground.phase }, { on := 5, ground := Ground.phase }, { on := 6, ground := Ground.phase }, { on := 7, ground := Ground.phase }, { on := 8, ground := Ground.phase }, { on := 9, ground := Ground.phase }, { on := 10, ground := Ground.phase }, { on := 11, ground := Ground.phase }, { on := 12, ground := Ground.phase }, { on := 13, ground := Ground.phase }, { on := 14, ground := Ground.phase }, { on := 15, ground := Ground.phase }, { on := 16, ground := Ground.phase }, { on := 17, ground := Ground.phase }, { on := 18, ground := Ground.phase }, { on := 19, ground := Ground.phase }, { on := 20, ground := Ground.phase }, { on := 21, ground := Ground.phase }, { on := 22, ground := Ground.phase }, { on := 23, ground := Ground.phase }, { on := 24, ground := Ground.phase }, { on := 25, ground := Ground.phase }, { on := 26, ground := Ground.phase }], guard := none }) rfl (fun K hK => ?_) AllReadyH.nil
          go_simp
          refine hK _ _ hHeld (fun _ => ?_)
          clear hK K
          refine wpAnyH_done (by kernel_rfl) ?_ _
          have HZ : Hid (Below W2.heap.size W2 w3) := hb3
          clear hHeld hb1 hb3
          go_wp2
          exact HX.out _ HZ.out
  have u1 : (cc == 1) = false := by simpa using q1
  have u2 : (cc == 2) = false := by simpa using q2
  have u3 : (cc == 3) = false := by simpa using q3
  have u4 : (cc == 4) = false := by simpa using q4
  have u5 : (cc == 5) = false := by simpa using q5
  have u6 : (cc == 6) = false := by simpa using q6
  have u7 : (cc == 7) = false := by simpa using q7
  have u8 : (cc == 8) = false := by simpa using q8
  have u9 : (cc == 9) = false := by simpa using q9
  have u10 : (cc == 10) = false := by simpa using q10
  have u11 : (cc == 11) = false := by simpa using q11
  have u12 : (cc == 12) = false := by simpa using q12
  have u13 : (cc == 13) = false := by simpa using q13
  have u14 : (cc == 14) = false := by simpa using q14
  have HX : Hid (G (.returned (.bool false)) W2) := HFin.out W2 _ HB2.out (sb_no (by rw [HCC.out]; omega))
  rw [hW2] at HX
  clear q1 q2 q3 q4 q5 q6 q7 q8 q9 q10 q11 q12 q13 q14 hW2
  go_enter Tryd.func26, Tryd.ntmps26
  go_wp2
  exact HX.out
end Go.Proofs.YtjmbjpimabnohaaDoor.Mid
