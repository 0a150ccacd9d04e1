/- GE GH -/
import Derived.Test.YtjmbjpimabnohaaDoorK29
namespace Go.Proofs.YtjmbjpimabnohaaDoor.Mid
set_option linter.unusedVariables false
set_option linter.unusedSimpArgs false
open Go Go.RowKit
def WtP (w : World) (e : Ending) (w' : World) : Prop := ∃ b, e = .returned (.map (some b)) ∧ w.heap.size ≤ b ∧ b < w'.heap.size ∧ Below w.heap.size w w'
structure WtI (w W2 : World) (i : Nat) (wr : World) : Prop where
  bel : Below w.heap.size w wr
  b0 : wr.heap[w.heap.size]? = W2.heap[w.heap.size]?
  mp : ∃ f n, Mp 3 wr (w.heap.size + 1) (iF f) n ∧ n ≤ i
theorem WtI.put {w W2 wr : World} {i : Nat} {d : Int} (h : WtI w W2 i wr) (hd : I64 d) (hi : i ≤ 1000) : ∃ q w9, (Instr.lookup 69 (.map (some (w.heap.size + 1))) (.int .i64 d) false).run Tryd.prog wr = .ok (.int .i64 q) wr ∧ (Instr.mapUpdate 69 (.map (some (w.heap.size + 1))) (.int .i64 d) (.int .i64 (wrap64 (q + 1)))).run Tryd.prog wr = .ok () w9 ∧ WtI w W2 (i + 1) w9 := by
  obtain ⟨f, n, hm, hn⟩ := h.mp
  have lk := hm.look kdI und69 (zero3 wr) (key_i d hd)
  obtain ⟨q, hq⟩ : ∃ q, (f d).getD 0 = q := ⟨_, rfl⟩
  obtain ⟨i1, i2⟩ := iF_set f d (wrap64 (q + 1))
  obtain ⟨w9, hr, hm9, hg⟩ := hm.put kdI und69 (by omega) (key_i d hd) (ikl d) (.int .i64 (wrap64 (q + 1))) i1 i2
  refine ⟨q, w9, ?_, hr, ⟨?_, ?_, _, _, hm9, ?_⟩⟩
  · rw [lk]
    show Result.ok (((f d).map fun y => Value.int .i64 y).getD (.int .i64 0)) wr = _
    rw [← hq]
    cases f d <;> rfl
  · exact h.bel.grown hg h.bel.size (fun k e => by injection e with e; omega)
  · rw [hg.block _ (by have := hm.lt; omega) (fun e => by injection e with e; omega)]
    exact h.b0
  · split <;> omega
set_option maxRecDepth 100000 in
set_option maxHeartbeats 4000000 in
theorem written_76 (w : World) (B : Nat) (v : Value) (y : ByteArray) (tl : List Int) (l : List Ms) (h : FlM w B v y tl l) (hff : FfE w) (hs : ∀ s ∈ l, Strt tl.length s) (hl : l.length ≤ 1000) (htl : tl.length ≤ 1000000) : Calls Tryd.prog 76 #[v] w (WtP w) := by
  obtain ⟨tv, sv, rfl, h1, h2⟩ := h
  obtain ⟨tq, tc, rfl⟩ := own_slice h1
  obtain ⟨sq, sc, rfl⟩ := own_slice h2
  obtain ⟨nt, hnt⟩ : ∃ nt, tl.length = nt := ⟨_, rfl⟩
  obtain ⟨ns, hns⟩ : ∃ ns, l.length = ns := ⟨_, rfl⟩
  rw [hns] at h2 hl
  rw [hnt] at hs htl
  obtain ⟨A, hA⟩ : ∃ A : Obj, A = .cells #[.string y, .int .i64 0, .slice tq nt tc, .slice sq ns sc] 35 := ⟨_, rfl⟩
  have hz1 : (w.alloc A).heap.size = w.heap.size + 1 := by simp
  obtain ⟨W2, hW2⟩ : ∃ W2, W2 = (w.alloc A).alloc (.map #[] 0) := ⟨_, rfl⟩
  have hb2 : Below w.heap.size w W2 := by rw [hW2]; exact (al_bel _ _).trans ((al_bel (w.alloc _) _).mono (by simp))
  have k0 : W2.heap[w.heap.size]? = some (.cells #[.string y, .int .i64 0, .slice tq nt tc, .slice sq ns sc] 35) := by rw [hW2, row_eq_alloc (by simp), heap_alloc_last, hA]
  have km : Mp 3 W2 (w.heap.size + 1) (fun _ => none) 0 := by rw [hW2, ← hz1]; exact Mp.made 3 _
  have hi0 : (iF fun _ => none) = fun _ => none := by
    funext x
    cases x with
    | int k x => cases k <;> rfl
    | _ => rfl
  have HI0 : Hid (WtI w W2 0 W2) := ⟨hb2, rfl, fun _ => none, 0, by rw [hi0]; exact km, Nat.le_refl _⟩
  have HR : Hid (w.ownsRow B 44 10 (.slice sq ns sc) ns (rowC l) ∧ l.length = ns ∧ (∀ s ∈ l, Strt nt s) ∧ FfE w ∧ W2.heap[w.heap.size]? = some (.cells #[.string y, .int .i64 0, .slice tq nt tc, .slice sq ns sc] 35)) := ⟨h2, hns, hs, hff, k0⟩
  have HG : Hid (∀ W i, WtI w W2 i W → WtP w (.returned (.map (some (w.heap.size + 1)))) W) := fun W i hI => by
    obtain ⟨f, n, hm, _⟩ := hI.mp
    exact ⟨_, rfl, by omega, hm.lt, hI.bel⟩
  have hmm : ∀ W : World, (Instr.makeMap 69 none).run Tryd.prog W = .ok (.map (some W.heap.size)) (W.alloc (.map #[] 0)) := fun W => by simp [Instr.makeMap, go_sem]
  have u3 := cell_at (i := 3) k0 rfl
  rw [hW2, hA] at u3
  rw [hA] at hW2
  generalize WtP w = G at HG ⊢
  rw [hnt, hns]
  clear h1 h2 hff hs hb2 k0 km hi0 hA hz1 hnt hns
  go_enter Tryd.func76, Tryd.ntmps76
  go_wp2_with fail
  rw [← hW2]
  clear hW2 u3
  go_loopw [10] (fun v wr => ∃ i : Nat, i ≤ ns ∧ v = .int .i64 i ∧ Hid (WtI w W2 i wr)) (fun v _ => ns - (intOf v).toNat)
  case atStart => exact ⟨0, Nat.zero_le _, rfl, HI0⟩
  case round =>
    obtain ⟨i, hin, rfl, HI⟩ := hrel
    by_cases hlt : i < ns
    · obtain ⟨s, hsi⟩ : ∃ s, l[i]? = some s := ⟨l[i]'(by have := HR.out.2.1; omega), List.getElem?_eq_getElem _⟩
      have hst := HR.out.2.2.1 s (List.mem_of_getElem? hsi)
      obtain ⟨g, rfl, hc⟩ := row_step (own_at HR.out.1 (fun k hk => HI.out.bel.block k (own_lt HR.out.1 k hk))) hsi
      have k0 : wr.heap[w.heap.size]? = some (.cells #[.string y, .int .i64 0, .slice tq nt tc, .slice (some ⟨g, 0, none⟩) ns sc] 35) := by rw [HI.out.b0]; exact HR.out.2.2.2.2
      have x3 := cell_at (i := 3) k0 rfl
      have x0 : wr.cell? ⟨g, i * 10, none⟩ = some (.int .i64 s.code) := by have := hc 0 (by omega); rw [Nat.add_zero] at this; exact this
      have x1 : wr.cell? ⟨g, i * 10 + 1, none⟩ = some (.int .i64 s.dst) := hc 1 (by omega)
      have hF1 := HR.out.2.2.2.1.below HI.out.bel
      obtain ⟨-, -, -, g1, -⟩ := hF1 1 (by omega)
      obtain ⟨-, -, -, g2, -⟩ := hF1 2 (by omega)
      obtain ⟨-, -, -, g3, -⟩ := hF1 3 (by omega)
      obtain ⟨-, -, -, g8, -⟩ := hF1 8 (by omega)
      simp only [ffm] at g1 g2 g3 g8
      obtain ⟨cd, hcd⟩ : ∃ cd, s.code = cd := ⟨_, rfl⟩
      have hdst := hst.dst
      have hcode := hst.code
      rw [hcd] at x0 hdst hcode
      have hl9 : (i : Int) < (ns : Int) := by omega
      have HD : Hid (cd ≠ 8 → ∃ q w9, (Instr.lookup 69 (.map (some (w.heap.size + 1))) (.int .i64 s.dst) false).run Tryd.prog wr = .ok (.int .i64 q) wr ∧ (Instr.mapUpdate 69 (.map (some (w.heap.size + 1))) (.int .i64 s.dst) (.int .i64 (wrap64 (q + 1)))).run Tryd.prog wr = .ok () w9 ∧ WtI w W2 (i + 1) w9) := fun h => HI.out.put ⟨by have := hdst h; omega, by have := hdst h; omega⟩ (by omega)
      have HI1 : Hid (WtI w W2 (i + 1) wr) := ⟨HI.out.bel, HI.out.b0, by obtain ⟨f, n, a, b⟩ := HI.out.mp; exact ⟨f, n, a, by omega⟩⟩
      generalize s.dst = dd at x1 HD
      clear hsi hst hc k0 hF1 hcd hdst
      rcases hcode with rfl | rfl | rfl | rfl
      · obtain ⟨q, w9, r1, r2, hi9⟩ := HD.out (by decide)
        have HI9 : Hid (WtI w W2 (i + 1) w9) := hi9
        clear hi9
        go_wp2
        exact ⟨⟨i + 1, by omega, by go_num, HI9⟩, by simp [intOf]; omega⟩
      · obtain ⟨q, w9, r1, r2, hi9⟩ := HD.out (by decide)
        have HI9 : Hid (WtI w W2 (i + 1) w9) := hi9
        clear hi9
        go_wp2
        exact ⟨⟨i + 1, by omega, by go_num, HI9⟩, by simp [intOf]; omega⟩
      · obtain ⟨q, w9, r1, r2, hi9⟩ := HD.out (by decide)
        have HI9 : Hid (WtI w W2 (i + 1) w9) := hi9
        clear hi9
        go_wp2
        exact ⟨⟨i + 1, by omega, by go_num, HI9⟩, by simp [intOf]; omega⟩
      · go_wp2
        exact ⟨⟨i + 1, by omega, by go_num, HI1⟩, by simp [intOf]; omega⟩
    · have HX : Hid (G (.returned (.map (some (w.heap.size + 1)))) wr) := HG.out wr i HI.out
      have k0 : wr.heap[w.heap.size]? = some (.cells #[.string y, .int .i64 0, .slice tq nt tc, .slice sq ns sc] 35) := by rw [HI.out.b0]; exact HR.out.2.2.2.2
      have x3 := cell_at (i := 3) k0 rfl
      clear k0
      go_wp2
      exact HX.out
theorem cnt_list : ∀ (l : List Bool) (i : Nat), l[i]? = some false → (l.set i true).count false + 1 = l.count false
  | [], i, h => by simp at h
  | b :: l, 0, h => by
    simp only [List.getElem?_cons_zero, Option.some.injEq] at h
    subst h
    simp
  | b :: l, i + 1, h => by
    simp only [List.getElem?_cons_succ] at h
    have := cnt_list l i h
    simp only [List.set_cons_succ, List.count_cons]
    omega
theorem cnt_set {l : Array Bool} {i : Nat} (h : l.getD i true = false) : (l.setIfInBounds i true).toList.count false + 1 = l.toList.count false := by
  have h' : l.toList[i]? = some false := by
    rw [Array.getElem?_toList]
    rcases Nat.lt_or_ge i l.size with hi | hi
    · rw [Array.getElem?_eq_getElem hi]
      simp [Array.getD, hi] at h
      rw [h]
    · simp [Array.getD, Nat.not_lt.2 hi] at h
  rw [Array.toList_setIfInBounds]
  exact cnt_list _ _ h'
theorem wpAnyH_meet {P : Program} {md : Region.Mode} {ops : Array Oper} {Q : Exit → Act → World → Prop} {S : World → Prop} {I : Array Bool → Act → World → Prop} {stop : Array Bool} {n : Nat}
    (hn : stop.toList.count false = n)
    (hstep : ∀ listed a w, I listed a w → listed ≠ stop → Region.ready md ops listed ≠ [] ∧ ∀ i ∈ Region.ready md ops listed, wpOp P ops Q i (fun a' w' => S w' ∧ I (listed.setIfInBounds i true) a' w') a w)
    (hstop : ∀ a w, I stop a w → wpAnyH P md ops Q S n stop a w)
    (hcnt : ∀ listed a w, I listed a w → listed.toList.count false ≤ n → listed = stop) :
    ∀ (fuel : Nat) (listed : Array Bool) (a : Act) (w : World), I listed a w → listed.toList.count false = fuel → n ≤ fuel → wpAnyH P md ops Q S fuel listed a w
  | 0, listed, a, w, hI, hc, hle => by
    obtain rfl : n = 0 := by omega
    obtain rfl := hcnt listed a w hI (by omega)
    exact hstop a w hI
  | fuel + 1, listed, a, w, hI, hc, hle => by
    by_cases hs : listed = stop
    · subst hs
      have e : n = fuel + 1 := by omega
      rw [← e]
      exact hstop a w hI
    · obtain ⟨h1, h2⟩ := hstep listed a w hI hs
      refine wpAnyH_all rfl h1 fun i hi => wpOp_mono (fun a' w' h => ⟨h.1, ?_⟩) (h2 i hi)
      have h0 := (mem_ready.1 hi).1
      have h3 := cnt_set h0
      refine wpAnyH_meet hn hstep hstop hcnt fuel _ a' w' h.2 (by omega) ?_
      rcases Nat.lt_or_ge fuel n with hlt | hge
      · exact absurd (hcnt listed a w hI (by omega)) hs
      · exact hge
abbrev fz (y : ByteArray) (tv sv x12 x13 x14 x15 : Value) : Array Value := #[.string y, .int .i64 0, tv, sv, x12, .bool true, .map none, .map none, x13, x14, x15, .int .i64 0]
structure KI (w5 : World) (y : ByteArray) (tv sv : Value) (c2 c3 c4 c5 c6 c7 a8 : Bool) (x12 x13 x14 x15 x16 x17 x3 : Value) (W : World) : Prop where
  bel : Below w5.heap.size w5 W
  e2 : c2 = true → ∃ b, x12 = .map (some b)
  e3 : c3 = true → ∃ b, x13 = .map (some b) ∧ w5.heap.size ≤ b ∧ Mp 3 W b (fun _ => none) 0
  e4 : c4 = true → ∃ b, x14 = .map (some b) ∧ w5.heap.size ≤ b ∧ Mp 2 W b (fun _ => none) 0
  e5 : c5 = true → ∃ b, x15 = .map (some b)
  ne : c3 = true → c4 = true → x13 ≠ x14
  e6 : c6 = true → c2 = true ∧ c3 = true ∧ c4 = true ∧ c5 = true ∧ x16 = .agg (fz y tv sv x12 x13 x14 x15)
  e7 : c7 = true → c6 = true ∧ ∃ b, x17 = ptr b ∧ w5.heap.size ≤ b ∧ W.heap[b]? = some (.cells (fz y tv sv x12 x13 x14 x15) 137)
  e8 : a8 = true → ∃ b, x3 = ptr b ∧ w5.heap.size ≤ b ∧ W.heap[b]? = some (.cells #[.pointer none] 132)
section
variable {w5 W W' : World} {y : ByteArray} {tv sv : Value} {c2 c3 c4 c5 c6 c7 a8 : Bool} {x12 x13 x14 x15 x16 x17 x3 : Value}
theorem KI.more (h : KI w5 y tv sv c2 c3 c4 c5 c6 c7 a8 x12 x13 x14 x15 x16 x17 x3 W) (hb : Below W.heap.size W W') : KI w5 y tv sv c2 c3 c4 c5 c6 c7 a8 x12 x13 x14 x15 x16 x17 x3 W' := by
  refine ⟨h.bel.trans (hb.mono h.bel.size), h.e2, fun q => ?_, fun q => ?_, h.e5, h.ne, h.e6, fun q => ?_, fun q => ?_⟩
  · obtain ⟨b, a1, a2, a3⟩ := h.e3 q
    exact ⟨b, a1, a2, a3.kept (hb.block b a3.lt)⟩
  · obtain ⟨b, a1, a2, a3⟩ := h.e4 q
    exact ⟨b, a1, a2, a3.kept (hb.block b a3.lt)⟩
  · obtain ⟨p, b, a1, a2, a3⟩ := h.e7 q
    exact ⟨p, b, a1, a2, by rw [hb.block b (Array.getElem?_eq_some_iff.1 a3).1]; exact a3⟩
  · obtain ⟨b, a1, a2, a3⟩ := h.e8 q
    exact ⟨b, a1, a2, by rw [hb.block b (Array.getElem?_eq_some_iff.1 a3).1]; exact a3⟩
theorem KI.n6 (h : KI w5 y tv sv c2 c3 c4 c5 c6 c7 a8 x12 x13 x14 x15 x16 x17 x3 W) (hf : c2 = false ∨ c3 = false ∨ c4 = false ∨ c5 = false) : c6 = false ∧ c7 = false := by
  have h6 : c6 = false := by
    cases e : c6 with
    | false => rfl
    | true =>
      obtain ⟨a, b, c, d, _⟩ := h.e6 e
      rcases hf with q | q | q | q
      · rw [q] at a; cases a
      · rw [q] at b; cases b
      · rw [q] at c; cases c
      · rw [q] at d; cases d
  refine ⟨h6, ?_⟩
  cases e : c7 with
  | false => rfl
  | true =>
    have := (h.e7 e).1
    rw [h6] at this
    cases this
theorem KI.new2 (h : KI w5 y tv sv c2 c3 c4 c5 c6 c7 a8 x12 x13 x14 x15 x16 x17 x3 W) (hf : c2 = false) (hb : Below W.heap.size W W') (b : Nat) : KI w5 y tv sv true c3 c4 c5 c6 c7 a8 (.map (some b)) x13 x14 x15 x16 x17 x3 W' := by
  obtain ⟨n6, n7⟩ := h.n6 (.inl hf)
  have h1 := h.more hb
  exact ⟨h1.bel, fun _ => ⟨b, rfl⟩, h1.e3, h1.e4, h1.e5, h1.ne, fun e => by (rw [n6] at e; cases e), fun e => by (rw [n7] at e; cases e), h1.e8⟩
theorem KI.new3 (h : KI w5 y tv sv c2 c3 c4 c5 c6 c7 a8 x12 x13 x14 x15 x16 x17 x3 W) (hf : c3 = false) : KI w5 y tv sv c2 true c4 c5 c6 c7 a8 x12 (.map (some W.heap.size)) x14 x15 x16 x17 x3 (W.alloc (.map #[] 0)) := by
  obtain ⟨n6, n7⟩ := h.n6 (.inr (.inl hf))
  have h1 := h.more (al_bel W (.map #[] 0))
  refine ⟨h1.bel, h1.e2, fun _ => ⟨_, rfl, h.bel.size, Mp.made 3 W⟩, h1.e4, h1.e5, fun _ q => ?_, fun e => by (rw [n6] at e; cases e), fun e => by (rw [n7] at e; cases e), h1.e8⟩
  obtain ⟨b, a1, a2, a3⟩ := h.e4 q
  rw [a1]
  intro e
  injection e with e
  injection e with e
  have := a3.lt
  omega
theorem KI.new4 (h : KI w5 y tv sv c2 c3 c4 c5 c6 c7 a8 x12 x13 x14 x15 x16 x17 x3 W) (hf : c4 = false) : KI w5 y tv sv c2 c3 true c5 c6 c7 a8 x12 x13 (.map (some W.heap.size)) x15 x16 x17 x3 (W.alloc (.map #[] 0)) := by
  obtain ⟨n6, n7⟩ := h.n6 (.inr (.inr (.inl hf)))
  have h1 := h.more (al_bel W (.map #[] 0))
  refine ⟨h1.bel, h1.e2, h1.e3, fun _ => ⟨_, rfl, h.bel.size, Mp.made 2 W⟩, h1.e5, fun q _ => ?_, fun e => by (rw [n6] at e; cases e), fun e => by (rw [n7] at e; cases e), h1.e8⟩
  obtain ⟨b, a1, a2, a3⟩ := h.e3 q
  rw [a1]
  intro e
  injection e with e
  injection e with e
  have := a3.lt
  omega
theorem KI.new5 (h : KI w5 y tv sv c2 c3 c4 c5 c6 c7 a8 x12 x13 x14 x15 x16 x17 x3 W) (hf : c5 = false) : KI w5 y tv sv c2 c3 c4 true c6 c7 a8 x12 x13 x14 (.map (some W.heap.size)) x16 x17 x3 (W.alloc (.map #[] 0)) := by
  obtain ⟨n6, n7⟩ := h.n6 (.inr (.inr (.inr hf)))
  have h1 := h.more (al_bel W (.map #[] 0))
  exact ⟨h1.bel, h1.e2, h1.e3, h1.e4, fun _ => ⟨_, rfl⟩, h1.ne, fun e => by (rw [n6] at e; cases e), fun e => by (rw [n7] at e; cases e), h1.e8⟩
theorem KI.new6 (h : KI w5 y tv sv c2 c3 c4 c5 c6 c7 a8 x12 x13 x14 x15 x16 x17 x3 W) (hf : c6 = false) (q2 : c2 = true) (q3 : c3 = true) (q4 : c4 = true) (q5 : c5 = true) : KI w5 y tv sv c2 c3 c4 c5 true c7 a8 x12 x13 x14 x15 (.agg (fz y tv sv x12 x13 x14 x15)) x17 x3 W := by
  have n7 : c7 = false := by
    cases e : c7 with
    | false => rfl
    | true =>
      have := (h.e7 e).1
      rw [hf] at this
      cases this
  exact ⟨h.bel, h.e2, h.e3, h.e4, h.e5, h.ne, fun _ => ⟨q2, q3, q4, q5, rfl⟩, fun e => by (rw [n7] at e; cases e), h.e8⟩
theorem KI.new7 (h : KI w5 y tv sv c2 c3 c4 c5 c6 c7 a8 x12 x13 x14 x15 x16 x17 x3 W) (q6 : c6 = true) : KI w5 y tv sv c2 c3 c4 c5 c6 true a8 x12 x13 x14 x15 x16 (ptr W.heap.size) x3 (W.alloc (.cells (fz y tv sv x12 x13 x14 x15) 137)) := by
  have h1 := h.more (al_bel W (.cells (fz y tv sv x12 x13 x14 x15) 137))
  exact ⟨h1.bel, h1.e2, h1.e3, h1.e4, h1.e5, h1.ne, h1.e6, fun _ => ⟨q6, _, rfl, h.bel.size, heap_alloc_last _ _⟩, h1.e8⟩
theorem KI.new8 (h : KI w5 y tv sv c2 c3 c4 c5 c6 c7 a8 x12 x13 x14 x15 x16 x17 x3 W) : KI w5 y tv sv c2 c3 c4 c5 c6 c7 true x12 x13 x14 x15 x16 x17 (ptr W.heap.size) (W.alloc (.cells #[.pointer none] 132)) := by
  have h1 := h.more (al_bel W (.cells #[.pointer none] 132))
  exact ⟨h1.bel, h1.e2, h1.e3, h1.e4, h1.e5, h1.ne, h1.e6, h1.e7, fun _ => ⟨_, rfl, h.bel.size, heap_alloc_last _ _⟩⟩
end
structure KnS (w5 : World) (y : ByteArray) (tv sv : Value) (b3 : Nat) (W : World) : Prop where
  ex : ∃ kb wb nb vb lb, W.heap[b3]? = some (.cells #[ptr kb] 132) ∧ W.heap[kb]? = some (.cells (fz y tv sv (.map (some wb)) (.map (some nb)) (.map (some vb)) (.map (some lb))) 137) ∧ Mp 3 W nb (fun _ => none) 0 ∧ Mp 2 W vb (fun _ => none) 0 ∧ nb ≠ vb ∧ w5.heap.size ≤ b3 ∧ w5.heap.size ≤ kb ∧ w5.heap.size ≤ nb ∧ w5.heap.size ≤ vb
  bel : Below w5.heap.size w5 W
theorem Mp.blk {k : TypeId} {W : World} {b n : Nat} {f : Lit → Option Value} (h : Mp k W b f n) : ∃ es c, W.heap[b]? = some (.map es c) := by
  obtain ⟨D, hown, _, _⟩ := id h
  obtain ⟨es, clock, hb, _⟩ := hown
  exact ⟨es, clock, hb⟩
theorem KI.stored {w5 W : World} {y : ByteArray} {tv sv : Value} {x12 x13 x14 x15 x16 : Value} {b17 b3 : Nat} (h : KI w5 y tv sv true true true true true true true x12 x13 x14 x15 x16 (ptr b17) (ptr b3) W) : KnS w5 y tv sv b3 (W.setCell ⟨b3, 0, none⟩ (ptr b17)) := by
  obtain ⟨wb, rfl⟩ := h.e2 rfl
  obtain ⟨nb, rfl, n1, n2⟩ := h.e3 rfl
  obtain ⟨vb, rfl, v1, v2⟩ := h.e4 rfl
  obtain ⟨lb, rfl⟩ := h.e5 rfl
  obtain ⟨-, b, e, k1, k2⟩ := h.e7 rfl
  injection e with e
  injection e with e
  injection e with e
  subst e
  obtain ⟨b, e, j1, j2⟩ := h.e8 rfl
  injection e with e
  injection e with e
  injection e with e
  subst e
  have hne := h.ne rfl rfl
  obtain ⟨es, c, m1⟩ := n2.blk
  obtain ⟨es', c', m2⟩ := v2.blk
  have d1 : b17 ≠ b3 := fun e => by rw [e, j2] at k2; injection k2 with k2; injection k2 with _ k2; cases k2
  have d2 : nb ≠ b3 := fun e => by rw [e, j2] at m1; cases m1
  have d3 : vb ≠ b3 := fun e => by rw [e, j2] at m2; cases m2
  refine ⟨⟨b17, wb, nb, vb, lb, heap_setCell_same _ _ _ _ _ _ j2, by rw [heap_setCell_other _ _ _ _ d1]; exact k2, n2.kept (heap_setCell_other _ _ _ _ d2), v2.kept (heap_setCell_other _ _ _ _ d3), fun e => hne (by rw [e]), j1, k1, n1, v1⟩, h.bel.setCell (p := ⟨b3, 0, none⟩) j1 _⟩
end Go.Proofs.YtjmbjpimabnohaaDoor.Mid
