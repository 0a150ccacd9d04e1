/- GL GM -/
import Derived.Test.YtjmbjpimabnohaaDoorK29
namespace Go.Proofs.YtjmbjpimabnohaaDoor.Mid
set_option linter.unusedVariables false
set_option linter.unusedSimpArgs false
open Go Go.RowKit
abbrev wd (x : Int) : Obj := .cells #[.int .u64 x] 93
theorem WsP.ko {w : World} {b : Nat} {x z : Int} {e : Ending} {w' : World} (h : WsP w b z e w') (hb : w.heap[b]? = some (wd x)) : e = .returned (.tuple #[]) ∧ w'.heap[b]? = some (wd z) ∧ Ko [b] w w' := by
  obtain ⟨rfl, rfl⟩ := h
  exact ⟨rfl, (heap_setCell_same (w := w) b 0 #[.int .u64 x] 93 (.int .u64 z) hb : (w.setCell ⟨b, 0, none⟩ (.int .u64 z)).heap[b]? = _), rfl, rfl, rfl, by simp [World.setCell, World.drew], fun k hk hz => (heap_setCell_other _ _ _ _ (by simpa using hz) : (w.setCell ⟨b, 0, none⟩ (.int .u64 z)).heap[k]? = _)⟩
def DwP (w : World) (b : Nat) (e : Ending) (w' : World) : Prop := e = .returned (.tuple #[]) ∧ (∃ x, w'.heap[b]? = some (wd x)) ∧ Ko [b] w w'
set_option maxRecDepth 100000 in
set_option maxHeartbeats 2000000 in
theorem look87 (w : World) (lb b g po p : Nat) (x : Int) (h1 : w.cell? ⟨lb, 0, none⟩ = some (.slice (some ⟨b, 0, none⟩) 1 1)) (h2 : w.heap[b]? = some (wd x)) (h3 : w.cell? ⟨g, po, none⟩ = some (.int .i64 (p : Int))) (hp : p < 64) : Calls Tryd.prog 87 #[.pointer (some ⟨g, po, none⟩), ptr lb] w (DwP w b) := by
  have HD : Hid (∀ W, W = w.drew → Calls Tryd.prog 88 #[.slice (some ⟨b, 0, none⟩) 1 1, .int .i64 (p : Int)] W (fun e w' => e = .returned (.tuple #[]) ∧ DwP w b (.returned (.tuple #[])) w')) := fun W hW => by
    subst hW
    refine (drop_88 w.drew b p x hp h2).mono ?_
    intro e w' h
    obtain ⟨rfl, h4, h5⟩ := h.ko (x := x) h2
    exact ⟨rfl, rfl, ⟨_, h4⟩, h5.undrew⟩
  have x1 : w.drew.cell? ⟨lb, 0, none⟩ = some (.slice (some ⟨b, 0, none⟩) 1 1) := h1
  have x2 : w.drew.cell? ⟨g, po, none⟩ = some (.int .i64 (p : Int)) := h3
  generalize DwP w b = G at HD ⊢
  clear h1 h2 h3
  go_enter Tryd.func87, Tryd.ntmps87
  go_wp2_with fail
  go_region_with (go_at_call 88; refine (HD.out _ rfl).mono ?_; rintro e w1 ⟨rfl, h9⟩; have HX : Hid (G (.returned (.tuple #[])) w1) := h9; clear h9)
  all_goals
    go_wp2
    go_end0
    exact HX.out
abbrev look87V (lb : Nat) : Value := .func (.func 87) #[] #[ptr lb]
set_option maxRecDepth 100000 in
set_option maxHeartbeats 2000000 in
theorem reads87_1 (w : World) (lb g o : Nat) (hff : FfE w) (c0 : w.cell? ⟨g, o, none⟩ = some (.int .i64 1)) : Calls Tryd.prog 84 #[.pointer (some ⟨g, o, none⟩), look87V lb] w (BlP w) := by
  obtain ⟨g0, g1, g2, g3, g4⟩ := hff 1 (by omega)
  obtain ⟨A, hA⟩ : ∃ A : Obj, A = .cells #[.bool false, .bool false, .bool false, .bool true, .bool true] 145 := ⟨_, rfl⟩
  have HX : Hid (BlP w (.returned (.tuple #[])) (w.alloc A)) := ⟨rfl, al_bel _ _⟩
  have hc1 : (w.alloc A).cell? ⟨g, o, none⟩ = some (.int .i64 1) := cell_old c0
  simp only [ffm] at g0 g1 g2 g3 g4
  rw [hA] at HX hc1
  generalize BlP w = G at HX ⊢
  clear hff hA
  go_enter Tryd.func84, Tryd.ntmps84
  go_wp2
  go_end0
  exact HX.out
set_option maxRecDepth 100000 in
set_option maxHeartbeats 4000000 in
theorem reads87_8 (w : World) (lb b g o p : Nat) (x : Int) (h1 : w.cell? ⟨lb, 0, none⟩ = some (.slice (some ⟨b, 0, none⟩) 1 1)) (h2 : w.heap[b]? = some (wd x)) (hbg : g ≠ b) (hp : p < 64) (hff : FfE w) (c0 : w.cell? ⟨g, o, none⟩ = some (.int .i64 8)) (c2 : w.cell? ⟨g, o + 2, none⟩ = some (.int .i64 (p : Int))) :
    Calls Tryd.prog 84 #[.pointer (some ⟨g, o, none⟩), look87V lb] w (DwP w b) := by
  obtain ⟨g0, g1, g2, g3, g4⟩ := hff 8 (by omega)
  obtain ⟨A, hA⟩ : ∃ A : Obj, A = .cells #[.bool true, .bool false, .bool false, .bool false, .bool false] 145 := ⟨_, rfl⟩
  have hbA := al_bel w A
  have hbl : b < w.heap.size := (Array.getElem?_eq_some_iff.1 h2).1
  have HLk : Hid (Calls Tryd.prog 87 #[.pointer (some ⟨g, o + 2, none⟩), ptr lb] (w.alloc A) (fun e w' => e = .returned (.tuple #[]) ∧ w'.heap[w.heap.size]? = some (.cells #[.bool true, .bool false, .bool false, .bool false, .bool false] 145) ∧ w'.cell? ⟨g, o, none⟩ = some (.int .i64 8) ∧ DwP w b (.returned (.tuple #[])) w')) := by
    refine (look87 (w.alloc A) lb b g (o + 2) p x (cell_old h1) (by rw [hbA.block b hbl]; exact h2) (cell_old c2) hp).mono ?_
    rintro e w' ⟨rfl, h4, h5⟩
    refine ⟨rfl, ?_, h5.cell (by simpa using hbg) (cell_old c0), rfl, h4, (Ko.of_below hbA).trans h5⟩
    rw [h5.blk w.heap.size (by simp) (by simp; omega), heap_alloc_last, hA]
  have hc1 : (w.alloc A).cell? ⟨g, o, none⟩ = some (.int .i64 8) := cell_old c0
  simp only [ffm] at g0 g1 g2 g3 g4
  rw [hA] at HLk hc1
  generalize DwP w b = G at HLk ⊢
  clear hff hA h1 h2 hbA c2
  go_enter Tryd.func84, Tryd.ntmps84
  go_wp2_with (go_at_call 87; fail)
  refine HLk.out.mono ?_
  rintro e w2 ⟨rfl, hb2, y0, hG⟩
  have HX : Hid (G (.returned (.tuple #[])) w2) := hG
  have x1 := cell_at (i := 1) hb2 rfl
  have x2 := cell_at (i := 2) hb2 rfl
  clear hb2 hG g0 g1 g2 g3 g4 hc1 c0
  go_wp2
  go_end0
  exact HX.out
structure Nst (nt : Nat) (s : Ms) : Prop where
  code : s.code = 1 ∨ s.code = 8
  dst : s.code = 1 → 0 ≤ s.dst ∧ s.dst < nt
  a : s.code = 8 → 0 ≤ s.a ∧ s.a < nt
structure IdI (w W2 : World) (b : Nat) (wr : World) : Prop where
  bel : Below w.heap.size w wr
  sz : W2.heap.size ≤ wr.heap.size
  oth : ∀ k, w.heap.size ≤ k → k < W2.heap.size → k ≠ b → wr.heap[k]? = W2.heap[k]?
  wrd : ∃ x, wr.heap[b]? = some (wd x)
theorem IdI.ko {w W2 wr w' : World} {b : Nat} (h : IdI w W2 b wr) (hb : w.heap.size ≤ b) (hk : Ko [b] wr w') (hx : ∃ x, w'.heap[b]? = some (wd x)) : IdI w W2 b w' := by
  have h1 := h.bel
  have h2 := h.sz
  refine ⟨⟨hk.os.trans h1.os, hk.tape.trans h1.tape, hk.output.trans h1.output, Nat.le_trans h1.size hk.size, fun k hk2 => ?_⟩, Nat.le_trans h2 hk.size, fun k k1 k2 k3 => ?_, hx⟩
  · rw [hk.blk k (by have := h1.size; omega) (by simp; omega)]; exact h1.block k hk2
  · rw [hk.blk k (by omega) (by simpa using k3)]; exact h.oth k k1 k2 k3
theorem IdI.more {w W2 wr w' : World} {b : Nat} (h : IdI w W2 b wr) (hk : Below wr.heap.size wr w') : IdI w W2 b w' := by
  have h1 := h.bel
  have h2 := h.sz
  obtain ⟨x, hx⟩ := h.wrd
  refine ⟨h1.trans (hk.mono h1.size), Nat.le_trans h2 hk.size, fun k k1 k2 k3 => ?_, x, ?_⟩
  · rw [hk.block k (by omega)]; exact h.oth k k1 k2 k3
  · rw [hk.block b (Array.getElem?_eq_some_iff.1 hx).1]; exact hx
def WxP (w : World) (e : Ending) (w' : World) : Prop := ∃ b x, e = .returned (.slice (some ⟨b, 0, none⟩) 1 1) ∧ w.heap.size ≤ b ∧ w'.heap[b]? = some (wd x) ∧ Below w.heap.size w w'
set_option maxRecDepth 100000 in
set_option maxHeartbeats 4000000 in
theorem idle_72 (w : World) (B : Nat) (v : Value) (y : ByteArray) (tl : List Int) (l : List Ms) (h : FlM w B v y tl l) (hff : FfE w) (hs : ∀ s ∈ l, Nst tl.length s) (hl : l.length ≤ 1000) (ht1 : 1 ≤ tl.length) (ht : tl.length ≤ 64) : Calls Tryd.prog 72 #[v] w (WxP w) := by
  obtain ⟨tv, sv, rfl, h1, h2⟩ := h
  obtain ⟨tq, tc, rfl⟩ := own_slice h1
  obtain ⟨sq, sc, rfl⟩ := own_slice h2
  obtain ⟨nt, hnt⟩ : ∃ nt, tl.length = nt := ⟨_, rfl⟩
  obtain ⟨ns, hns⟩ : ∃ ns, l.length = ns := ⟨_, rfl⟩
  rw [hns] at h2 hl
  rw [hnt] at hs ht1 ht
  obtain ⟨A, hA⟩ : ∃ A : Obj, A = .cells #[.string y, .int .i64 0, .slice tq nt tc, .slice sq ns sc] 35 := ⟨_, rfl⟩
  obtain ⟨W1, hW1⟩ : ∃ W1, W1 = w.alloc A := ⟨_, rfl⟩
  have hb1 : Below w.heap.size w W1 := by rw [hW1]; exact al_bel _ _
  have hz1 : W1.heap.size = w.heap.size + 1 := by rw [hW1]; simp
  have k1 : W1.heap[w.heap.size]? = some (.cells #[.string y, .int .i64 0, .slice tq nt tc, .slice sq ns sc] 35) := by rw [hW1, heap_alloc_last, hA]
  have HRm : Hid (Calls Tryd.prog 73 #[.agg #[.string y, .int .i64 0, .slice tq nt tc, .slice sq ns sc]] W1 (WdP W1)) := room_73 W1 y tq nt tc _ ht1 ht
  have HR : Hid (w.ownsRow B 44 10 (.slice sq ns sc) ns (rowC l) ∧ l.length = ns ∧ (∀ s ∈ l, Nst nt s) ∧ FfE w ∧ Below w.heap.size w W1 ∧ W1.heap.size = w.heap.size + 1 ∧ W1.heap[w.heap.size]? = some (.cells #[.string y, .int .i64 0, .slice tq nt tc, .slice sq ns sc] 35)) := ⟨h2, hns, hs, hff, hb1, hz1, k1⟩
  have hmf : ∀ (fn : Fn) (first cap : Array Value) (w : World), (Instr.makeFunc fn first cap).run Tryd.prog w = .ok (.func fn first cap) w := fun _ _ _ _ => rfl
  have u0 := cell_at (i := 0) k1 rfl
  have u1 := cell_at (i := 1) k1 rfl
  have u2 := cell_at (i := 2) k1 rfl
  have u3 := cell_at (i := 3) k1 rfl
  rw [hW1, hA] at u0 u1 u2 u3
  rw [hA] at hW1
  generalize hG : WxP w = G
  have HG : Hid (WxP w = G) := hG
  rw [hnt, hns]
  clear h1 h2 hff hs hb1 hz1 k1 hnt hns hG hA
  go_enter Tryd.func72, Tryd.ntmps72
  go_wp2_with (go_at_call 73; fail)
  rw [← hW1]
  clear hW1 u0 u1 u2 u3
  refine HRm.out.mono ?_
  rintro e w2 ⟨b, rfl, hb, hbb, hb2⟩
  have hbl : b < w2.heap.size := (Array.getElem?_eq_some_iff.1 hbb).1
  obtain ⟨W4, hW4⟩ : ∃ W4, W4 = w2.alloc (.cells #[.slice (some ⟨b, 0, none⟩) 1 1] 128) := ⟨_, rfl⟩
  have q4 : W4.heap[w2.heap.size]? = some (.cells #[.slice (some ⟨b, 0, none⟩) 1 1] 128) := by rw [hW4]; exact heap_alloc_last _ _
  have hz4 : W4.heap.size = w2.heap.size + 1 := by rw [hW4]; simp
  have ho4 : ∀ k, k < w2.heap.size → W4.heap[k]? = w2.heap[k]? := fun k hk => by rw [hW4, row_eq_alloc hk]
  have hbw2 : Below w.heap.size w w2 := HR.out.2.2.2.2.1.trans (hb2.mono HR.out.2.2.2.2.1.size)
  have hz1 := HR.out.2.2.2.2.2.1
  have hb4 : Below w.heap.size w W4 := ⟨by rw [hW4]; exact hbw2.os, by rw [hW4]; exact hbw2.tape, by rw [hW4]; exact hbw2.output, by rw [hz4]; have := hbw2.size; omega, fun k hk => by rw [ho4 k (by have := hbw2.size; omega)]; exact hbw2.block k hk⟩
  have k0 : W4.heap[w.heap.size]? = some (.cells #[.string y, .int .i64 0, .slice tq nt tc, .slice sq ns sc] 35) := by
    have l1 := (Array.getElem?_eq_some_iff.1 HR.out.2.2.2.2.2.2).1
    rw [ho4 _ (by have := hb2.size; omega), hb2.block _ l1]
    exact HR.out.2.2.2.2.2.2
  have HI0 : Hid (IdI w W4 b W4) := ⟨hb4, Nat.le_refl _, fun _ _ _ _ => rfl, 0, by rw [ho4 b hbl]; exact hbb⟩
  have HB : Hid (w.heap.size + 1 ≤ b ∧ b < w2.heap.size ∧ W4.heap.size = w2.heap.size + 1 ∧ W4.heap[w.heap.size]? = some (.cells #[.string y, .int .i64 0, .slice tq nt tc, .slice sq ns sc] 35) ∧ W4.heap[w2.heap.size]? = some (.cells #[.slice (some ⟨b, 0, none⟩) 1 1] 128)) := ⟨by omega, hbl, hz4, k0, q4⟩
  have v2 := cell_at (i := 2) k0 rfl
  rw [hW4] at v2
  clear hb hbb hb2 hbl q4 hz4 ho4 hbw2 hz1 hb4 k0
  go_wp2_with fail
  rw [← hW4]
  clear hW4 v2
  have HIf : Hid (∀ wr, IdI w W4 b wr → wr.heap[w.heap.size]? = some (.cells #[.string y, .int .i64 0, .slice tq nt tc, .slice sq ns sc] 35) ∧ wr.heap[w2.heap.size]? = some (.cells #[.slice (some ⟨b, 0, none⟩) 1 1] 128)) := fun wr hI => by
    have h9 := HB.out
    exact ⟨by rw [hI.oth _ (Nat.le_refl _) (by omega) (by omega)]; exact h9.2.2.2.1, by rw [hI.oth _ (by omega) (by omega) (by omega)]; exact h9.2.2.2.2⟩
  go_loopw [12] (fun v wr => ∃ i : Nat, i ≤ nt ∧ v = .int .i64 i ∧ Hid (IdI w W4 b wr)) (fun v _ => nt - (intOf v).toNat)
  case atStart => exact ⟨0, Nat.zero_le _, rfl, HI0⟩
  case round =>
    obtain ⟨i, hin, rfl, HI⟩ := hrel
    obtain ⟨k0, k3⟩ := HIf.out wr HI.out
    by_cases hlt : i < nt
    · obtain ⟨x, hx⟩ := HI.out.wrd
      have HA : Hid (Calls Tryd.prog 86 #[.slice (some ⟨b, 0, none⟩) 1 1, .int .i64 (i : Int)] wr (fun e w' => e = .returned (.tuple #[]) ∧ IdI w W4 b w')) := by
        refine (add_86 wr b i x (by omega) hx).mono ?_
        intro e w' h
        obtain ⟨rfl, h4, h5⟩ := h.ko hx
        exact ⟨rfl, HI.out.ko (by have := HB.out.1; omega) h5 ⟨_, h4⟩⟩
      have y3 := cell_at (i := 0) k3 rfl
      clear k0 k3 hx
      go_wp2_with (go_at_call 86; fail)
      refine HA.out.mono ?_
      rintro e w5 ⟨rfl, hI5⟩
      have HI5 : Hid (IdI w W4 b w5) := hI5
      clear hI5
      go_wp2
      exact ⟨⟨i + 1, by omega, by go_num, HI5⟩, by simp [intOf]; omega⟩
    · have y3 := cell_at (i := 3) k0 rfl
      clear k0 k3
      obtain ⟨W6, hW6⟩ : ∃ W6, W6 = wr := ⟨_, rfl⟩
      have HI6 : Hid (IdI w W4 b W6) := by rw [hW6]; exact HI
      go_wp2_with fail
      clear y3
      go_loopw [22] (fun v wr => ∃ j : Nat, j ≤ ns ∧ v = .int .i64 j ∧ Hid (IdI w W4 b wr)) (fun v _ => ns - (intOf v).toNat)
      case atStart => exact ⟨0, Nat.zero_le _, rfl, HI⟩
      case round =>
        clear HI HI6 hW6
        obtain ⟨j, hjn, rfl, HI⟩ := hrel
        obtain ⟨k0, k3⟩ := HIf.out wr HI.out
        by_cases hlt2 : j < ns
        · obtain ⟨s, hsi⟩ : ∃ s, l[j]? = some s := ⟨l[j]'(by have := HR.out.2.1; omega), List.getElem?_eq_getElem _⟩
          have hst := HR.out.2.2.1 s (List.mem_of_getElem? hsi)
          have ho := own_at HR.out.1 (fun k hk => HI.out.bel.block k (own_lt HR.out.1 k hk))
          obtain ⟨g, rfl, hc⟩ := row_step ho hsi
          have hgl : g < w.heap.size := own_lt HR.out.1 g rfl
          have hgb : g ≠ b := by have := HB.out.1; omega
          obtain ⟨x, hx⟩ := HI.out.wrd
          have x0 : wr.cell? ⟨g, j * 10, none⟩ = some (.int .i64 s.code) := by have := hc 0 (by omega); rw [Nat.add_zero] at this; exact this
          have x1 : wr.cell? ⟨g, j * 10 + 1, none⟩ = some (.int .i64 s.dst) := hc 1 (by omega)
          have x2 : wr.cell? ⟨g, j * 10 + 2, none⟩ = some (.int .i64 s.a) := hc 2 (by omega)
          have hF1 := HR.out.2.2.2.1.below HI.out.bel
          have y3 := cell_at (i := 3) k0 rfl
          have z3 := cell_at (i := 0) k3 rfl
          have hl9 : (j : Int) < (ns : Int) := by omega
          rcases hst.code with h1 | h8
          · obtain ⟨d, hd⟩ : ∃ d : Nat, s.dst = (d : Int) := ⟨s.dst.toNat, by have := hst.dst h1; omega⟩
            have hd64 : d < 64 := by have := hst.dst h1; omega
            rw [h1] at x0
            rw [hd] at x1
            have HRd : Hid (Calls Tryd.prog 84 #[.pointer (some ⟨g, j * 10, none⟩), look87V w2.heap.size] wr (BlP wr)) := reads87_1 wr _ g (j * 10) hF1 x0
            have HX1 : Hid (wr.cell? ⟨g, j * 10, none⟩ = some (.int .i64 1) ∧ wr.cell? ⟨g, j * 10 + 1, none⟩ = some (.int .i64 (d : Int))) := ⟨x0, x1⟩
            clear hsi hst ho hc hF1 h1 hd x2 hx k0 k3
            go_wp2_with (go_at_call 84; fail)
            refine HRd.out.mono ?_
            rintro e w5 ⟨rfl, hb5⟩
            have HI5 : Hid (IdI w W4 b w5) := HI.out.more hb5
            obtain ⟨k0, k3⟩ := HIf.out w5 HI5.out
            have z3' : w5.drew.cell? ⟨w2.heap.size, 0, none⟩ = some (.slice (some ⟨b, 0, none⟩) 1 1) := cell_at (w := w5) (i := 0) k3 rfl
            have p0 : w5.cell? ⟨g, j * 10, none⟩ = some (.int .i64 1) := by rw [hb5.cell (p := ⟨g, j * 10, none⟩) (cell_lt HX1.out.1)]; exact HX1.out.1
            have p1 : w5.drew.cell? ⟨g, j * 10 + 1, none⟩ = some (.int .i64 (d : Int)) := by
              have : w5.cell? ⟨g, j * 10 + 1, none⟩ = some (.int .i64 (d : Int)) := by rw [hb5.cell (p := ⟨g, j * 10 + 1, none⟩) (cell_lt HX1.out.2)]; exact HX1.out.2
              exact this
            obtain ⟨-, -, -, g1, -⟩ := (HR.out.2.2.2.1.below HI5.out.bel) 1 (by omega)
            simp only [ffm] at g1
            obtain ⟨x, hx⟩ := HI5.out.wrd
            have HD : Hid (Calls Tryd.prog 88 #[.slice (some ⟨b, 0, none⟩) 1 1, .int .i64 (d : Int)] w5.drew (fun e w' => e = .returned (.tuple #[]) ∧ IdI w W4 b w')) := by
              refine (drop_88 w5.drew b d x hd64 hx).mono ?_
              intro e w' h
              obtain ⟨rfl, h4, h5⟩ := h.ko (x := x) hx
              exact ⟨rfl, HI5.out.ko (by have := HB.out.1; omega) h5.undrew ⟨_, h4⟩⟩
            clear x0 x1 y3 z3 hb5 k0 k3 hx
            go_wp2_with fail
            go_region_with (go_at_call 88; refine HD.out.mono ?_; rintro e w6 ⟨rfl, h9⟩; have HI6 : Hid (IdI w W4 b w6) := h9; clear h9)
            all_goals
              go_wp2
              exact ⟨⟨j + 1, by omega, by go_num, HI6⟩, by simp [intOf]; omega⟩
          · obtain ⟨p, hp⟩ : ∃ p : Nat, s.a = (p : Int) := ⟨s.a.toNat, by have := hst.a h8; omega⟩
            have hp64 : p < 64 := by have := hst.a h8; omega
            rw [h8] at x0
            rw [hp] at x2
            have HRd : Hid (Calls Tryd.prog 84 #[.pointer (some ⟨g, j * 10, none⟩), look87V w2.heap.size] wr (DwP wr b)) := reads87_8 wr _ b g (j * 10) p x z3 hx hgb hp64 hF1 x0 x2
            have HX1 : Hid (wr.cell? ⟨g, j * 10, none⟩ = some (.int .i64 8)) := x0
            clear hsi hst ho hc hF1 h8 hp x1 hx k0 k3
            go_wp2_with (go_at_call 84; fail)
            refine HRd.out.mono ?_
            rintro e w5 ⟨rfl, hx5, hk5⟩
            have HI5 : Hid (IdI w W4 b w5) := HI.out.ko (by have := HB.out.1; omega) hk5 hx5
            have p0 : w5.cell? ⟨g, j * 10, none⟩ = some (.int .i64 8) := hk5.cell (by simpa using hgb) HX1.out
            obtain ⟨-, -, -, g8, -⟩ := (HR.out.2.2.2.1.below HI5.out.bel) 8 (by omega)
            simp only [ffm] at g8
            clear x0 x2 y3 z3 hx5 hk5
            go_wp2
            exact ⟨⟨j + 1, by omega, by go_num, HI5⟩, by simp [intOf]; omega⟩
        · obtain ⟨x, hx⟩ := HI.out.wrd
          have HX : Hid (G (.returned (.slice (some ⟨b, 0, none⟩) 1 1)) wr) := by
            show G _ _
            rw [← HG.out]
            exact ⟨b, x, rfl, by have := HB.out.1; omega, hx, HI.out.bel⟩
          have z3 := cell_at (i := 0) k3 rfl
          clear k0 k3 hx
          go_wp2
          exact HX.out
set_option maxRecDepth 100000 in
set_option maxHeartbeats 1000000 in
theorem only_1 (w : World) (g o : Nat) (hff : FfE w) (c0 : w.cell? ⟨g, o, none⟩ = some (.int .i64 1)) : Calls Tryd.prog 102 #[.pointer (some ⟨g, o, none⟩)] w (fun e w' => e = .returned (.bool true) ∧ w' = w) := by
  have HX : Hid ((fun e w' => e = Ending.returned (.bool true) ∧ w' = w) (.returned (.bool true)) w) := ⟨rfl, rfl⟩
  generalize (fun e w' => e = Ending.returned (.bool true) ∧ w' = w) = G at HX ⊢
  obtain ⟨-, -, -, -, g4⟩ := hff 1 (by omega)
  simp only [ffm] at g4
  clear hff
  go_enter Tryd.func102, Tryd.ntmps102
  go_wp2
  exact HX.out
set_option maxRecDepth 100000 in
set_option maxHeartbeats 1000000 in
theorem only_8 (w : World) (g o : Nat) (hff : FfE w) (c0 : w.cell? ⟨g, o, none⟩ = some (.int .i64 8)) : Calls Tryd.prog 102 #[.pointer (some ⟨g, o, none⟩)] w (fun e w' => e = .returned (.bool false) ∧ w' = w) := by
  have HX : Hid ((fun e w' => e = Ending.returned (.bool false) ∧ w' = w) (.returned (.bool false)) w) := ⟨rfl, rfl⟩
  generalize (fun e w' => e = Ending.returned (.bool false) ∧ w' = w) = G at HX ⊢
  obtain ⟨-, -, -, -, g4⟩ := hff 8 (by omega)
  simp only [ffm] at g4
  clear hff
  go_enter Tryd.func102, Tryd.ntmps102
  go_wp2
  exact HX.out
abbrev ndO (y : ByteArray) (tv sv : Value) (mb ib bb gb ns : Nat) : Obj := .cells #[.string y, .int .i64 0, tv, sv, .map (some mb), .slice (some ⟨ib, 0, none⟩) 1 1, .slice (some ⟨bb, 0, none⟩) 1 1, .slice (some ⟨gb, 0, none⟩) ns ns] 131
set_option maxRecDepth 100000 in
set_option maxHeartbeats 2000000 in
theorem needless_8 (w : World) (Nb g o : Nat) (hff : FfE w) (c0 : w.cell? ⟨g, o, none⟩ = some (.int .i64 8)) : Calls Tryd.prog 90 #[ptr Nb, .pointer (some ⟨g, o, none⟩)] w (fun e w' => e = .returned (.bool false) ∧ Sm0 w w') := by
  have HX : Hid ((fun e w' => e = Ending.returned (.bool false) ∧ Sm0 w w') (.returned (.bool false)) w) := ⟨rfl, Sm0.refl w⟩
  have HO : Hid (Calls Tryd.prog 102 #[.pointer (some ⟨g, o, none⟩)] w (fun e w' => e = .returned (.bool false) ∧ w' = w)) := only_8 w g o hff c0
  generalize (fun e w' => e = Ending.returned (.bool false) ∧ Sm0 w w') = G at HX ⊢
  clear hff
  go_enter Tryd.func90, Tryd.ntmps90
  go_wp2_with (go_at_call 102; fail)
  refine HO.out.mono ?_
  rintro e w' ⟨rfl, rfl⟩
  go_wp2
  exact HX.out
set_option maxRecDepth 100000 in
set_option maxHeartbeats 4000000 in
theorem needless_1 (w : World) (y : ByteArray) (sv : Value) (nt tc Nb mb ib bb gb ns g o tb d : Nat) (x : Int) (hb : w.heap[Nb]? = some (ndO y (.slice (some ⟨tb, 0, none⟩) nt tc) sv mb ib bb gb ns)) (hx : w.heap[bb]? = some (wd x)) (ht : w.cell? ⟨tb, d, none⟩ = some (.int .i64 1)) (hff : FfE w) (c0 : w.cell? ⟨g, o, none⟩ = some (.int .i64 1)) (c1 : w.cell? ⟨g, o + 1, none⟩ = some (.int .i64 (d : Int))) (hd : d < nt) (hn : nt ≤ 64) : Calls Tryd.prog 90 #[ptr Nb, .pointer (some ⟨g, o, none⟩)] w (fun e w' => e = .returned (.bool (!hasV x d)) ∧ Sm0 w w') := by
  have HX : Hid ((fun e w' => e = Ending.returned (.bool (!hasV x d)) ∧ Sm0 w w') (.returned (.bool (!hasV x d))) w.drew.drew) := ⟨rfl, fun _ => rfl, rfl, rfl, rfl, rfl⟩
  have HO : Hid (Calls Tryd.prog 102 #[.pointer (some ⟨g, o, none⟩)] w (fun e w' => e = .returned (.bool true) ∧ w' = w)) := only_1 w g o hff c0
  generalize (fun e w' => e = Ending.returned (.bool (!hasV x d)) ∧ Sm0 w w') = G at HX ⊢
  have HH : Hid (Calls Tryd.prog 103 #[.slice (some ⟨bb, 0, none⟩) 1 1, .int .i64 (d : Int)] w.drew.drew (fun e w' => e = .returned (.bool (hasV x d)) ∧ w' = w.drew.drew)) := has_103 w.drew.drew bb d x (by omega) (cell_at (w := w) (i := 0) hx rfl)
  have e2 : w.drew.cell? ⟨Nb, 2, none⟩ = some (.slice (some ⟨tb, 0, none⟩) nt tc) := cell_at (w := w) (i := 2) hb rfl
  have e6 : w.drew.drew.cell? ⟨Nb, 6, none⟩ = some (.slice (some ⟨bb, 0, none⟩) 1 1) := cell_at (w := w) (i := 6) hb rfl
  have e1 : w.drew.cell? ⟨g, o + 1, none⟩ = some (.int .i64 (d : Int)) := c1
  have e1' : w.drew.drew.cell? ⟨g, o + 1, none⟩ = some (.int .i64 (d : Int)) := c1
  have et : w.drew.cell? ⟨tb, d, none⟩ = some (.int .i64 1) := ht
  have hl9 : (d : Int) < (nt : Int) := by omega
  clear hff hb hx ht
  go_enter Tryd.func90, Tryd.ntmps90
  go_wp2_with (go_at_call 102; fail)
  refine HO.out.mono ?_
  rintro e w' ⟨rfl, rfl⟩
  clear c0 c1
  go_wp2_with fail
  go_region
  all_goals
    go_wp2_with fail
    go_region_with (go_at_call 103; refine HH.out.mono ?_; rintro e w' ⟨rfl, rfl⟩)
    all_goals
      go_wp2
      first | exact HX.out | (go_ret; exact HX.out)
def OrP (w : World) (b : Nat) (x : Int) (p : Nat) (e : Ending) (w' : World) : Prop := e = .returned (.tuple #[]) ∧ w'.heap[b]? = some (wd (orV x p)) ∧ Ko [b] w w'
set_option maxRecDepth 100000 in
set_option maxHeartbeats 2000000 in
theorem look91 (w : World) (y : ByteArray) (tv sv : Value) (bx Nb mb ib bb gb ns g po p : Nat) (x : Int) (h1 : w.cell? ⟨bx, 0, none⟩ = some (ptr Nb)) (hb : w.heap[Nb]? = some (ndO y tv sv mb ib bb gb ns)) (h2 : w.heap[bb]? = some (wd x)) (h3 : w.cell? ⟨g, po, none⟩ = some (.int .i64 (p : Int))) (hp : p < 64) : Calls Tryd.prog 91 #[.pointer (some ⟨g, po, none⟩), ptr bx] w (OrP w bb x p) := by
  have HD : Hid (∀ W, W = w.drew → Calls Tryd.prog 86 #[.slice (some ⟨bb, 0, none⟩) 1 1, .int .i64 (p : Int)] W (fun e w' => e = .returned (.tuple #[]) ∧ OrP w bb x p (.returned (.tuple #[])) w')) := fun W hW => by
    subst hW
    refine (add_86 w.drew bb p x hp h2).mono ?_
    intro e w' h
    obtain ⟨rfl, h4, h5⟩ := h.ko (x := x) h2
    exact ⟨rfl, rfl, h4, h5.undrew⟩
  have x1 : w.drew.cell? ⟨bx, 0, none⟩ = some (ptr Nb) := h1
  have x2 : w.drew.cell? ⟨g, po, none⟩ = some (.int .i64 (p : Int)) := h3
  have x3 : w.drew.cell? ⟨Nb, 6, none⟩ = some (.slice (some ⟨bb, 0, none⟩) 1 1) := cell_at (w := w) (i := 6) hb rfl
  generalize OrP w bb x p = G at HD ⊢
  clear h1 h2 h3 hb
  go_enter Tryd.func91, Tryd.ntmps91
  go_wp2_with fail
  go_region_with (go_at_call 86; refine (HD.out _ rfl).mono ?_; rintro e w1 ⟨rfl, h9⟩; have HX : Hid (G (.returned (.tuple #[])) w1) := h9; clear h9)
  all_goals
    go_wp2
    go_end0
    exact HX.out
abbrev look91V (bx : Nat) : Value := .func (.func 91) #[] #[ptr bx]
set_option maxRecDepth 100000 in
set_option maxHeartbeats 2000000 in
theorem reads91_1 (w : World) (bx g o : Nat) (hff : FfE w) (c0 : w.cell? ⟨g, o, none⟩ = some (.int .i64 1)) : Calls Tryd.prog 84 #[.pointer (some ⟨g, o, none⟩), look91V bx] w (BlP w) := by
  obtain ⟨g0, g1, g2, g3, g4⟩ := hff 1 (by omega)
  obtain ⟨A, hA⟩ : ∃ A : Obj, A = .cells #[.bool false, .bool false, .bool false, .bool true, .bool true] 145 := ⟨_, rfl⟩
  have HX : Hid (BlP w (.returned (.tuple #[])) (w.alloc A)) := ⟨rfl, al_bel _ _⟩
  have hc1 : (w.alloc A).cell? ⟨g, o, none⟩ = some (.int .i64 1) := cell_old c0
  simp only [ffm] at g0 g1 g2 g3 g4
  rw [hA] at HX hc1
  generalize BlP w = G at HX ⊢
  clear hff hA
  go_enter Tryd.func84, Tryd.ntmps84
  go_wp2
  go_end0
  exact HX.out
set_option maxRecDepth 100000 in
set_option maxHeartbeats 4000000 in
theorem reads91_8 (w : World) (y : ByteArray) (tv sv : Value) (bx Nb mb ib bb gb ns g o p : Nat) (x : Int) (h1 : w.cell? ⟨bx, 0, none⟩ = some (ptr Nb)) (hb : w.heap[Nb]? = some (ndO y tv sv mb ib bb gb ns)) (h2 : w.heap[bb]? = some (wd x)) (hbg : g ≠ bb) (hp : p < 64) (hff : FfE w) (c0 : w.cell? ⟨g, o, none⟩ = some (.int .i64 8)) (c2 : w.cell? ⟨g, o + 2, none⟩ = some (.int .i64 (p : Int))) :
    Calls Tryd.prog 84 #[.pointer (some ⟨g, o, none⟩), look91V bx] w (OrP w bb x p) := by
  obtain ⟨g0, g1, g2, g3, g4⟩ := hff 8 (by omega)
  obtain ⟨A, hA⟩ : ∃ A : Obj, A = .cells #[.bool true, .bool false, .bool false, .bool false, .bool false] 145 := ⟨_, rfl⟩
  have hbA := al_bel w A
  have hbl : bb < w.heap.size := (Array.getElem?_eq_some_iff.1 h2).1
  have HLk : Hid (Calls Tryd.prog 91 #[.pointer (some ⟨g, o + 2, none⟩), ptr bx] (w.alloc A) (fun e w' => e = .returned (.tuple #[]) ∧ w'.heap[w.heap.size]? = some (.cells #[.bool true, .bool false, .bool false, .bool false, .bool false] 145) ∧ w'.cell? ⟨g, o, none⟩ = some (.int .i64 8) ∧ OrP w bb x p (.returned (.tuple #[])) w')) := by
    refine (look91 (w.alloc A) y tv sv bx Nb mb ib bb gb ns g (o + 2) p x (cell_old h1) (by rw [hbA.block Nb (Array.getElem?_eq_some_iff.1 hb).1]; exact hb) (by rw [hbA.block bb hbl]; exact h2) (cell_old c2) hp).mono ?_
    rintro e w' ⟨rfl, h4, h5⟩
    refine ⟨rfl, ?_, h5.cell (by simpa using hbg) (cell_old c0), rfl, h4, (Ko.of_below hbA).trans h5⟩
    rw [h5.blk w.heap.size (by simp) (by simp; omega), heap_alloc_last, hA]
  have hc1 : (w.alloc A).cell? ⟨g, o, none⟩ = some (.int .i64 8) := cell_old c0
  simp only [ffm] at g0 g1 g2 g3 g4
  rw [hA] at HLk hc1
  generalize OrP w bb x p = G at HLk ⊢
  clear hff hA h1 h2 hbA c2 hb
  go_enter Tryd.func84, Tryd.ntmps84
  go_wp2_with (go_at_call 91; fail)
  refine HLk.out.mono ?_
  rintro e w2 ⟨rfl, hb2, y0, hG⟩
  have HX : Hid (G (.returned (.tuple #[])) w2) := hG
  have x1 := cell_at (i := 1) hb2 rfl
  have x2 := cell_at (i := 2) hb2 rfl
  clear hb2 hG g0 g1 g2 g3 g4 hc1 c0
  go_wp2
  go_end0
  exact HX.out
theorem clear_word (w : World) (b : Nat) (x : Int) (h : w.heap[b]? = some (wd x)) (ty : TypeId) : (Builtin.clear_ #[128] ty #[.slice (some ⟨b, 0, none⟩) 1 1]).run Tryd.prog w = .ok (.tuple #[]) (w.setCell ⟨b, 0, none⟩ (.int .u64 0)) := by
  have hz : ∀ w : World, (zeroValue 93).run Tryd.prog w = .ok (.int .u64 0) w := fun w => by kernel_rfl
  exact Lib.run_clear_slice w 128 93 ty (.int .u64 0) Tryd.underlying128 hz rfl rfl b 0 1 1 (by omega) (fun j hj => by
    obtain rfl : j = 0 := by omega
    rw [cell_at (i := 0) h rfl]
    rfl) (fun j hj => row_free h _)
end Go.Proofs.YtjmbjpimabnohaaDoor.Mid
