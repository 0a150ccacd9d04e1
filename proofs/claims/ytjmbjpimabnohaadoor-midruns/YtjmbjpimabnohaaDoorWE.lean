/- The law's code, walked. -/
import Derived.Test.YtjmbjpimabnohaaDoorWG
namespace Go.Proofs.YtjmbjpimabnohaaDoor.Mid
set_option linter.unusedVariables false
set_option linter.unusedSimpArgs false
open Go Go.RowKit

abbrev noCo : Ending := .returned (.tuple #[.pointer none, .slice none 0 0, .bool false])
set_option maxRecDepth 100000 in
set_option maxHeartbeats 8000000 in
theorem lawcode_any (w : World) (ql : Option Addr) (cl : Nat) (L : List Mf) (h : RowRw w ql cl L) : Calls Tryd.prog 5 #[.slice ql L.length cl] w (CoP w ql cl L) := by
  obtain ⟨n, hn⟩ : ∃ n, L.length = n := ⟨_, rfl⟩
  have HN : Hid (L.length = n) := hn
  have HR : Hid (RowRw w ql cl L) := h
  have HNo : Hid (∀ W, Below w.heap.size w W → CoP w ql cl L noCo W) := fun W hb => .inl ⟨rfl, hb⟩
  have HFin : Hid (∀ wr q c, CoI w ql L n wr (.slice q n c) → n ≤ 15 → CoP w ql cl L (.returned (.tuple #[ptr wr.heap.size, .slice q n c, .bool true])) (wr.alloc (.cells #[.slice ql n cl] 53))) := fun wr q c h1 h2 => co_fin HR.out hn h1 h2
  generalize CoP w ql cl L = G at HNo HFin ⊢
  rw [hn]
  clear hn h
  by_cases h15 : 15 < n
  · go_enter Tryd.func5, Tryd.ntmps5
    go_wp2
    go_ret3
    exact HNo.out w (Below.refl _ _)
  · go_enter Tryd.func5, Tryd.ntmps5
    go_wp2_with fail
    go_loopw [5, 6] (fun v i wr => ∃ (k : Nat) (q : Option Addr) (c : Nat), k ≤ n ∧ i = .int .i64 k ∧ v = .slice q k c ∧ Hid (CoI w ql L k wr (.slice q k c))) (fun _ i _ => n - (intOf i).toNat)
    case atStart => exact ⟨0, none, 0, Nat.zero_le _, rfl, rfl, ⟨Below.refl _ _, [], World.ownsRow_nil _ _ _ _, fun j F g p hj => by omega⟩⟩
    case round =>
      obtain ⟨k, q, c, hkn, rfl, rfl, HI⟩ := hrel
      by_cases hlt : k < n
      · obtain ⟨F, hF⟩ : ∃ F, L[k]? = some F := ⟨L[k]'(by have := HN.out; omega), List.getElem?_eq_getElem _⟩
        obtain ⟨g0, p0, rfl, hfn⟩ : ∃ g p, ql = some ⟨g, p, none⟩ ∧ ∀ j F, L[j]? = some F → FnRw w g (p + j * 4) F := by
          rcases HR.out.2 with h | h
          · rw [h] at hF; simp at hF
          · exact h
        have hA := hfn k F hF
        have HF : Hid (L[k]? = some F) := hF
        have kp : ∀ (W : World), Below w.heap.size w W → ∀ (b o : Nat) (v : Value), w.cell? ⟨b, o, none⟩ = some v → W.cell? ⟨b, o, none⟩ = some v := fun W hb b o v hv => by rw [hb.cell (p := ⟨b, o, none⟩) (cell_lt hv)]; exact hv
        obtain ⟨v2, hc2, q2, c2, rfl, hl2, hI2, hx2⟩ := hA.c2
        obtain ⟨q3, c3, hc3, hl3, hx3⟩ := hA.c3
        obtain ⟨y, hy⟩ : ∃ y : ByteArray, (⟨F.name.toArray⟩ : ByteArray) = y := ⟨_, rfl⟩
        obtain ⟨pr, hpr⟩ : ∃ pr, F.params = pr := ⟨_, rfl⟩
        obtain ⟨nt, hnt⟩ : ∃ nt, F.types.length = nt := ⟨_, rfl⟩
        obtain ⟨ns, hns⟩ : ∃ ns, F.steps.length = ns := ⟨_, rfl⟩
        have hc0 := hA.c0
        have hc1 := hA.c1
        rw [hy] at hc0
        rw [hpr] at hc1
        rw [hnt] at hc2 hl2
        rw [hns] at hc3 hl3
        have HC : Hid (w.cell? ⟨g0, p0 + k * 4, none⟩ = some (.string y) ∧ w.cell? ⟨g0, p0 + k * 4 + 1, none⟩ = some (.int .i64 pr) ∧ w.cell? ⟨g0, p0 + k * 4 + 2, none⟩ = some (.slice q2 nt c2) ∧ F.types.length = nt ∧ F.steps.length = ns) := ⟨hc0, hc1, hc2, hnt, hns⟩
        have HX3 : Hid (F.steps = [] ∨ ∃ g p, q3 = some ⟨g, p, none⟩ ∧ ∀ j s, F.steps[j]? = some s → StRw w g (p + j * 10) s) := hx3
        have u0 := kp wr HI.out.bel _ _ _ hc0
        have u1 := kp wr HI.out.bel _ _ _ hc1
        have u2 := kp wr HI.out.bel _ _ _ hc2
        have u3 := kp wr HI.out.bel _ _ _ hc3
        have HBl : Hid (∀ W, Below wr.heap.size wr W → Below w.heap.size w W) := fun W hb => HI.out.bel.trans (hb.mono HI.out.bel.size)
        obtain ⟨A1, hA1⟩ : ∃ A1 : Obj, A1 = .cells #[.string y, .int .i64 pr, .slice q2 nt c2, .slice q3 ns c3] 35 := ⟨_, rfl⟩
        have HBA : Hid (Below w.heap.size w (wr.alloc A1)) := HBl.out _ (al_bel _ _)
        clear hF hfn hA hI2 hx2 hx3 hy hpr hnt hns hc0 hc1 hc2 hc3
        by_cases h60 : 60 < ns
        · rw [hA1] at HBA
          go_wp2
          go_ret3
          exact HNo.out _ HBA.out
        by_cases h40 : 40 < nt
        · rw [hA1] at HBA
          go_wp2
          go_ret3
          exact HNo.out _ HBA.out
        obtain ⟨W2, hW2⟩ : ∃ W2, W2 = (wr.alloc A1).alloc (.cells #[.string y, .int .i64 pr, .slice q2 nt c2, .slice none 0 0] 57) := ⟨_, rfl⟩
        have HJ0 : Hid (CjI w wr F A1 y pr (.slice q2 nt c2) 0 (.slice none 0 0) W2) := by
          rw [hW2]
          refine ⟨(al_bel _ _).trans ((al_bel (wr.alloc A1) _).mono (by simp)), ?_, ?_, StNew.nil _ _ _ _, fun j s hj => by omega⟩
          · rw [row_eq_alloc (by simp)]; exact heap_alloc_last _ _
          · have e : (wr.alloc A1).heap.size = wr.heap.size + 1 := by simp
            rw [← e]; exact heap_alloc_last _ _
        have HA1 : Hid (A1 = .cells #[.string y, .int .i64 pr, .slice q2 nt c2, .slice q3 ns c3] 35) := hA1
        rw [hA1] at hW2
        clear hA1 HBA
        go_wp2_with fail
        rw [← hW2]
        clear hW2 u0 u1 u2 u3
        obtain ⟨row, hrow, hrow2⟩ := HI.out.own
        have HRw : Hid (wr.ownsRow w.heap.size 57 4 (.slice q k c) k row ∧ (∀ j F g p, j < k → L[j]? = some F → some (⟨g0, p0, none⟩ : Addr) = some ⟨g, p, none⟩ → FnNew w wr w.heap.size row j F g p) ∧ row.length = k * 4) := ⟨hrow, hrow2, hrow.1⟩
        clear hrow hrow2
        obtain ⟨wo, hwo⟩ : ∃ wo, wo = wr := ⟨_, rfl⟩
        subst hwo
        go_loopw [9] (fun v w2 => ∃ (m : Nat) (q9 : Option Addr) (c9 : Nat), m ≤ ns ∧ v = .int .i64 m ∧ Hid (CjI w wo F A1 y pr (.slice q2 nt c2) m (.slice q9 m c9) w2)) (fun v _ => ns - (intOf v).toNat)
        case atStart => exact ⟨0, none, 0, Nat.zero_le _, rfl, HJ0⟩
        case round =>
          obtain ⟨m, q9, c9, hmn, rfl, HJ⟩ := hrel
          have hbf : wr.heap[wo.heap.size]? = some (.cells #[.string y, .int .i64 pr, .slice q2 nt c2, .slice q3 ns c3] 35) := by rw [HJ.out.bf, HA1.out]
          have f3 := cell_at (i := 3) hbf rfl
          have f3' : wr.drew.cell? ⟨wo.heap.size, 3, none⟩ = some (.slice q3 ns c3) := f3
          have x0 := cell_at (i := 0) HJ.out.bx rfl
          have x1 := cell_at (i := 1) HJ.out.bx rfl
          have x2 := cell_at (i := 2) HJ.out.bx rfl
          have x3 := cell_at (i := 3) HJ.out.bx rfl
          have x3' : wr.drew.cell? ⟨wo.heap.size + 1, 3, none⟩ = some (.slice q9 m c9) := x3
          have HBw : Hid (Below w.heap.size w wr) := HBl.out wr HJ.out.bel
          clear hbf
          by_cases hlt2 : m < ns
          · obtain ⟨s, hs⟩ : ∃ s, F.steps[m]? = some s := ⟨F.steps[m]'(by have := HC.out.2.2.2.2; omega), List.getElem?_eq_getElem _⟩
            obtain ⟨gs, ps, rfl, hsts⟩ : ∃ g p, q3 = some ⟨g, p, none⟩ ∧ ∀ j s, F.steps[j]? = some s → StRw w g (p + j * 10) s := by
              rcases HX3.out with h | h
              · rw [h] at hs; simp at hs
              · exact h
            have hS := hsts m s hs
            obtain ⟨v9, hc9, qa, ca, rfl, -, -, -⟩ := hS.c9
            have HS : Hid (F.steps[m]? = some s ∧ StRw w gs (ps + m * 10) s) := ⟨hs, hS⟩
            have s0 := kp wr HBw.out _ _ _ hS.c0
            have s1 := kp wr HBw.out _ _ _ hS.c1
            have s2 := kp wr HBw.out _ _ _ hS.c2
            have s3 := kp wr HBw.out _ _ _ hS.c3
            have s4 := kp wr HBw.out _ _ _ hS.c4
            have s5 := kp wr HBw.out _ _ _ hS.c5
            have s6 := kp wr HBw.out _ _ _ hS.c6
            have s7 := kp wr HBw.out _ _ _ hS.c7
            have s8 := kp wr HBw.out _ _ _ hS.c8
            have s9 := kp wr HBw.out _ _ _ hc9
            have hop : (⟨s.op.toArray⟩ : ByteArray).size = s.op.length := by simp [ByteArray.size]
            have hv : ∀ i, i < 10 → ([.int .i64 s.code, .int .i64 s.dst, .int .i64 s.a, .int .i64 s.b, .int .i64 s.c, .int .i64 s.n, .string ⟨s.op.toArray⟩, .int .i64 s.label, .string ⟨s.name.toArray⟩, .slice qa s.args.length ca] : List Value)[i]? = w.cell? ⟨gs, ps + m * 10 + i, none⟩ := fun i hi => by
              have : i = 0 ∨ i = 1 ∨ i = 2 ∨ i = 3 ∨ i = 4 ∨ i = 5 ∨ i = 6 ∨ i = 7 ∨ i = 8 ∨ i = 9 := by omega
              rcases this with rfl | rfl | rfl | rfl | rfl | rfl | rfl | rfl | rfl | rfl
              · exact hS.c0.symm
              · exact hS.c1.symm
              · exact hS.c2.symm
              · exact hS.c3.symm
              · exact hS.c4.symm
              · exact hS.c5.symm
              · exact hS.c6.symm
              · exact hS.c7.symm
              · exact hS.c8.symm
              · exact hc9.symm
            obtain ⟨na, hna⟩ : ∃ na, s.args.length = na := ⟨_, rfl⟩
            obtain ⟨y6, hy6⟩ : ∃ y6 : ByteArray, (⟨s.op.toArray⟩ : ByteArray) = y6 := ⟨_, rfl⟩
            obtain ⟨y8, hy8⟩ : ∃ y8 : ByteArray, (⟨s.name.toArray⟩ : ByteArray) = y8 := ⟨_, rfl⟩
            rw [hna] at s9 hv
            rw [hy6] at s6 hv hop
            rw [hy8] at s8 hv
            have HNa : Hid (s.args.length = na ∧ y6.size = s.op.length) := ⟨hna, hop⟩
            generalize s.code = v0 at s0 hv
            generalize s.dst = v1 at s1 hv
            generalize s.a = v2 at s2 hv
            generalize s.b = v3 at s3 hv
            generalize s.c = v4 at s4 hv
            generalize s.n = v5 at s5 hv
            generalize s.label = v7 at s7 hv
            have HV : Hid (∀ i, i < 10 → ([.int .i64 v0, .int .i64 v1, .int .i64 v2, .int .i64 v3, .int .i64 v4, .int .i64 v5, .string y6, .int .i64 v7, .string y8, .slice qa na ca] : List Value)[i]? = w.cell? ⟨gs, ps + m * 10 + i, none⟩) := hv
            clear hs hsts hS hc9 hv hop hna hy6 hy8
            by_cases h20 : 20 < na
            · go_wp2
              go_ret3
              exact HNo.out _ HBw.out
            by_cases h21 : 20 < y6.size
            · go_wp2
              go_ret3
              exact HNo.out _ HBw.out
            obtain ⟨zs, hz1, hz2⟩ := HJ.out.st
            have HZ : Hid (∀ j s, j < m → F.steps[j]? = some s → ∃ gs ps, StRw w gs ps s ∧ ∀ i, i < 10 → zs[j * 10 + i]? = w.cell? ⟨gs, ps + i, none⟩) := hz2
            have HZl : Hid (zs.length = m * 10 ∧ ∀ i, (Value.slice q9 m c9).ownBlock = some i → wo.heap.size + 2 ≤ i) := ⟨hz1.1, fun i hi => (hz1.lt i hi).1⟩
            obtain ⟨i0, hi0, hz0, hs0, hb0⟩ := info_parts info58
            have HO3 : Hid ((wr.alloc (.cells #[.int .i64 v0, .int .i64 v1, .int .i64 v2, .int .i64 v3, .int .i64 v4, .int .i64 v5, .string y6, .int .i64 v7, .string y8, .slice qa na ca] 58)).drew.ownsRow (wo.heap.size + 2) 58 10 (.slice q9 m c9) m zs) := own_at (hz1.alloc _) (fun i hi => rfl)
            have HN3 : Hid (∀ (i : Nat) (x : Value), ([.int .i64 v0, .int .i64 v1, .int .i64 v2, .int .i64 v3, .int .i64 v4, .int .i64 v5, .string y6, .int .i64 v7, .string y8, .slice qa na ca] : List Value)[i]? = some x → (wr.alloc (.cells #[.int .i64 v0, .int .i64 v1, .int .i64 v2, .int .i64 v3, .int .i64 v4, .int .i64 v5, .string y6, .int .i64 v7, .string y8, .slice qa na ca] 58)).drew.cell? ((⟨wr.heap.size, 0, none⟩ : Addr).add i) = some x) := World.news_of_block (cs := #[.int .i64 v0, .int .i64 v1, .int .i64 v2, .int .i64 v3, .int .i64 v4, .int .i64 v5, .string y6, .int .i64 v7, .string y8, .slice qa na ca]) (t := 58) (fr := (0, 0)) (w := (wr.alloc _).drew) (heap_alloc_last wr _)
            have H13 : Hid (∀ u ∈ ([.int .i64 v0, .int .i64 v1, .int .i64 v2, .int .i64 v3, .int .i64 v4, .int .i64 v5, .string y6, .int .i64 v7, .string y8, .slice qa na ca] : List Value), u.oneCell' = true) := fun u hu => by
              simp only [List.mem_cons, List.not_mem_nil, or_false] at hu
              rcases hu with rfl | rfl | rfl | rfl | rfl | rfl | rfl | rfl | rfl | rfl <;> rfl
            have HZ3 : Hid (wo.heap.size + 2 ≤ (wr.alloc (.cells #[.int .i64 v0, .int .i64 v1, .int .i64 v2, .int .i64 v3, .int .i64 v4, .int .i64 v5, .string y6, .int .i64 v7, .string y8, .slice qa na ca] 58)).drew.heap.size) := by
              have := (Array.getElem?_eq_some_iff.1 HJ.out.bx).1
              show _ ≤ (wr.alloc _).heap.size
              simp
              omega
            have HNx : Hid (∀ g5 cap5 w5, w5.ownsRow (wo.heap.size + 2) 58 10 (.slice (some ⟨g5, 0, none⟩) (m + 1) cap5) (m + 1) (zs ++ [.int .i64 v0, .int .i64 v1, .int .i64 v2, .int .i64 v3, .int .i64 v4, .int .i64 v5, .string y6, .int .i64 v7, .string y8, .slice qa na ca]) → (wr.alloc (.cells #[.int .i64 v0, .int .i64 v1, .int .i64 v2, .int .i64 v3, .int .i64 v4, .int .i64 v5, .string y6, .int .i64 v7, .string y8, .slice qa na ca] 58)).drew.grownBy w5 (Value.slice q9 m c9).ownBlock → w5.heap[wo.heap.size + 1]? = some (.cells #[.string y, .int .i64 pr, .slice q2 nt c2, .slice q9 m c9] 57) ∧ CjI w wo F A1 y pr (.slice q2 nt c2) (m + 1) (.slice (some ⟨g5, 0, none⟩) (m + 1) cap5) (w5.setCell ⟨wo.heap.size + 1, 3, none⟩ (.slice (some ⟨g5, 0, none⟩) (m + 1) cap5))) := fun g5 cap5 w5 a1 a2 => cj_next HJ.out HZ.out HZl.out.1 HS.out.1 ⟨by rw [HNa.out.1]; omega, by rw [← HNa.out.2]; omega⟩ HS.out.2 HV.out a1 a2 HZl.out.2
            have x3n : (wr.alloc (.cells #[.int .i64 v0, .int .i64 v1, .int .i64 v2, .int .i64 v3, .int .i64 v4, .int .i64 v5, .string y6, .int .i64 v7, .string y8, .slice qa na ca] 58)).drew.cell? ⟨wo.heap.size + 1, 3, none⟩ = some (.slice q9 m c9) := cell_old x3
            have f3n : (wr.alloc (.cells #[.int .i64 v0, .int .i64 v1, .int .i64 v2, .int .i64 v3, .int .i64 v4, .int .i64 v5, .string y6, .int .i64 v7, .string y8, .slice qa na ca] 58)).drew.cell? ⟨wo.heap.size, 3, none⟩ = some (.slice (some ⟨gs, ps, none⟩) ns c3) := cell_old f3
            clear hz1 hz2 x0 x1 x2
            go_wp2_with fail
            go_region_law (refine step_append_lies _ rfl (.tmp 66) (.tmp 72) 55 rfl (wo.heap.size + 2) 58 i0 _ 10 112 und55 hi0 hz0 hs0 hb0 rfl (by decide) (.slice q9 m c9) m zs (by simp [Act.eval]) HO3.out ⟨wr.heap.size, 0, none⟩ 1 1 [.int .i64 v0, .int .i64 v1, .int .i64 v2, .int .i64 v3, .int .i64 v4, .int .i64 v5, .string y6, .int .i64 v7, .string y8, .slice qa na ca] (by simp [Act.eval]) rfl HN3.out H13.out (by decide) (by unfold maxLen; omega) (by omega) HZ3.out (wr.heap.size + 1) (by simp) ?_; intro g5 cap5 w5 hown5 hgrow5 hg5 hlt5; obtain ⟨hx5, hJ5⟩ := HNx.out g5 cap5 w5 hown5 hgrow5; have HJ5 : Hid (CjI w wo F A1 y pr (.slice q2 nt c2) (m + 1) (.slice (some ⟨g5, 0, none⟩) (m + 1) cap5) (w5.setCell ⟨wo.heap.size + 1, 3, none⟩ (.slice (some ⟨g5, 0, none⟩) (m + 1) cap5))) := hJ5; have c5 : w5.cell? ⟨wo.heap.size + 1, 3, none⟩ = some (.slice q9 m c9) := cell_at (i := 3) hx5 rfl; have f5 := row_free hx5 3; clear hown5 hgrow5 hg5 hlt5 hx5 hJ5)
            all_goals
              go_wp2
              exact ⟨⟨m + 1, some ⟨g5, 0, none⟩, cap5, by omega, by go_num, HJ5⟩, by simp [intOf]; omega⟩
          · have hme : m = F.steps.length := by have := HC.out.2.2.2.2; omega
            obtain ⟨i1, hi1, hz1, hs1, hb1⟩ := info_parts info57
            have hrwr : wr.ownsRow w.heap.size 57 4 (.slice q k c) k row := own_at HRw.out.1 (fun i hi => HJ.out.bel.block i (own_lt HRw.out.1 i hi))
            have HO4 : Hid ((wr.alloc (.cells #[.string y, .int .i64 pr, .slice q2 nt c2, .slice q9 m c9] 57)).ownsRow w.heap.size 57 4 (.slice q k c) k row) := hrwr.alloc _
            have HN4 : Hid (∀ (i : Nat) (x : Value), ([.string y, .int .i64 pr, .slice q2 nt c2, .slice q9 m c9] : List Value)[i]? = some x → (wr.alloc (.cells #[.string y, .int .i64 pr, .slice q2 nt c2, .slice q9 m c9] 57)).cell? ((⟨wr.heap.size, 0, none⟩ : Addr).add i) = some x) := World.news_of_block (cs := #[.string y, .int .i64 pr, .slice q2 nt c2, .slice q9 m c9]) (t := 57) (fr := (0, 0)) (heap_alloc_last wr _)
            have H14 : Hid (∀ u ∈ ([.string y, .int .i64 pr, .slice q2 nt c2, .slice q9 m c9] : List Value), u.oneCell' = true) := fun u hu => by
              simp only [List.mem_cons, List.not_mem_nil, or_false] at hu
              rcases hu with rfl | rfl | rfl | rfl <;> rfl
            have HZ4 : Hid (w.heap.size ≤ (wr.alloc (.cells #[.string y, .int .i64 pr, .slice q2 nt c2, .slice q9 m c9] 57)).heap.size) := by
              have := HBw.out.size
              show _ ≤ _
              simp
              omega
            have HNy : Hid (∀ g5 cap5 w5, w5.ownsRow w.heap.size 57 4 (.slice (some ⟨g5, 0, none⟩) (k + 1) cap5) (k + 1) (row ++ [.string y, .int .i64 pr, .slice q2 nt c2, .slice q9 m c9]) → (wr.alloc (.cells #[.string y, .int .i64 pr, .slice q2 nt c2, .slice q9 m c9] 57)).grownBy w5 (Value.slice q k c).ownBlock → CoI w (some ⟨g0, p0, none⟩) L (k + 1) w5 (.slice (some ⟨g5, 0, none⟩) (k + 1) cap5)) := fun g5 cap5 w5 a1 a2 => by
              have hJ := HJ.out
              have hns : F.steps.length = ns := HC.out.2.2.2.2
              rw [hme] at hJ a1 a2
              exact co_next HI.out HRw.out.2.1 HRw.out.2.2 HF.out rfl hJ HC.out.1 HC.out.2.1 HC.out.2.2.1 (by omega) (by have := HC.out.2.2.2.1; omega) a1 a2 (fun i hi => own_ty' HRw.out.1 hi) (fun i hi => (HRw.out.1.lt i hi).1)
            clear hme hrwr
            go_wp2_with (at_builtin; refine wpList_append_lies _ rfl _ _ 25 rfl w.heap.size 57 i1 _ 4 72 und25 hi1 hz1 hs1 hb1 rfl (by decide) _ k row rfl HO4.out ⟨wr.heap.size, 0, none⟩ 1 1 [.string y, .int .i64 pr, .slice q2 nt c2, .slice q9 m c9] rfl rfl HN4.out H14.out (by decide) (by unfold maxLen; omega) (by omega) HZ4.out (wr.heap.size + 1) (by simp) ?_)
            intro g5 cap5 w5 hown5 hgrow5 hg5 hlt5
            have HI5 : Hid (CoI w (some ⟨g0, p0, none⟩) L (k + 1) w5 (.slice (some ⟨g5, 0, none⟩) (k + 1) cap5)) := HNy.out g5 cap5 w5 hown5 hgrow5
            clear hown5 hgrow5 hg5 hlt5
            go_wp2
            exact ⟨⟨k + 1, some ⟨g5, 0, none⟩, cap5, by omega, by go_num, rfl, HI5⟩, by simp [intOf]; omega⟩
      · have hke : n = k := by omega
        subst hke
        go_wp2
        go_ret3
        exact HFin.out wr q c HI.out (by omega)
end Go.Proofs.YtjmbjpimabnohaaDoor.Mid
