/- FJ -/
import Derived.Test.YtjmbjpimabnohaaDoorK18
namespace Go.Proofs.YtjmbjpimabnohaaDoor.Mid
set_option linter.unusedVariables false
set_option linter.unusedSimpArgs false
open Go Go.RowKit
set_option maxRecDepth 100000 in
set_option maxHeartbeats 1000000 in
theorem gone_85 (w : World) (gb bb ns i : Nat) (h1 : w.cell? ⟨gb, 0, none⟩ = some (.slice (some ⟨bb, 0, none⟩) ns ns)) (h2 : w.cell? ⟨bb, i, none⟩ = some (.bool false)) (hi : i < ns) (hn : ns ≤ 1000) : Calls Tryd.prog 85 #[.int .i64 (i : Int), ptr gb] w (fun e w' => e = .returned (.bool false) ∧ Sm0 w w') := by
  have HX : Hid ((fun e w' => e = Ending.returned (.bool false) ∧ Sm0 w w') (.returned (.bool false)) w) := ⟨rfl, Sm0.refl w⟩
  generalize (fun e w' => e = Ending.returned (.bool false) ∧ Sm0 w w') = G at HX ⊢
  have hl9 : (i : Int) < (ns : Int) := by omega
  go_enter Tryd.func85, Tryd.ntmps85
  go_wp2
  exact HX.out
set_option maxRecDepth 100000 in
set_option maxHeartbeats 1000000 in
theorem seen_69 (w : World) (gb bb ns i : Nat) (h1 : w.cell? ⟨gb, 0, none⟩ = some (.slice (some ⟨bb, 0, none⟩) ns ns)) (h2 : w.cell? ⟨bb, i, none⟩ = some (.bool true)) (hi : i < ns) (hn : ns ≤ 1000) : Calls Tryd.prog 69 #[.int .i64 (i : Int), ptr gb] w (fun e w' => e = .returned (.bool false) ∧ Sm0 w w') := by
  have HX : Hid ((fun e w' => e = Ending.returned (.bool false) ∧ Sm0 w w') (.returned (.bool false)) w) := ⟨rfl, Sm0.refl w⟩
  generalize (fun e w' => e = Ending.returned (.bool false) ∧ Sm0 w w') = G at HX ⊢
  have hl9 : (i : Int) < (ns : Int) := by omega
  go_enter Tryd.func69, Tryd.ntmps69
  go_wp2
  exact HX.out
set_option maxRecDepth 100000 in
set_option maxHeartbeats 2000000 in
theorem asked_71 (w : World) (fb ab sb ns sc i : Nat) (cd : Int) (h1 : w.cell? ⟨fb, 3, none⟩ = some (.slice (some ⟨sb, 0, none⟩) ns sc)) (h2 : w.cell? ⟨sb, i * 10, none⟩ = some (.int .i64 cd)) (h6 : cd ≠ 6) (hi : i < ns) (hn : ns ≤ 1000) : Calls Tryd.prog 71 #[.int .i64 (i : Int), ptr fb, ptr ab] w (fun e w' => e = .returned (.bool false) ∧ Sm0 w w') := by
  have HX : Hid ((fun e w' => e = Ending.returned (.bool false) ∧ Sm0 w w') (.returned (.bool false)) w.drew) := ⟨rfl, fun k => rfl, rfl, rfl, rfl, rfl⟩
  generalize (fun e w' => e = Ending.returned (.bool false) ∧ Sm0 w w') = G at HX ⊢
  have hl9 : (i : Int) < (ns : Int) := by omega
  have t6 : (cd == 6) = false := by simpa using h6
  have h2' : w.drew.cell? ⟨sb, i * 10, none⟩ = some (.int .i64 cd) := h2
  go_enter Tryd.func71, Tryd.ntmps71
  go_wp2_with fail
  go_region
  all_goals
    go_wp2
    exact HX.out
theorem FlM.below {w w' : World} {B : Nat} {v : Value} {y : ByteArray} {tl : List Int} {l : List Ms} (h : FlM w B v y tl l) (hb : Below w.heap.size w w') : FlM w' B v y tl l := by
  obtain ⟨tv, sv, e, h1, h2⟩ := h
  exact ⟨tv, sv, e, own_at h1 (fun i hi => hb.block i (own_lt h1 i hi)), own_at h2 (fun i hi => hb.block i (own_lt h2 i hi))⟩
theorem res67 (tmps : Array Value) (w : World) (g : Nat) (a b c d : Value) (hp : tmps.getD 2 undef = .pointer (some ⟨g, 0, none⟩)) (hg : w.heap[g]? = some (.cells #[a, b, c, d] 35)) :
    (results Tryd.f67 tmps).run Tryd.prog w = .ok (.agg #[a, b, c, d]) w :=
  results_cell_row (p := 2) (ty := 35) Tryd.results67 _ _ g 35 _ (0, 0) _ hp hg Tryd.underlying35 rfl (by kernel_rfl)
set_option maxRecDepth 100000 in
set_option maxHeartbeats 8000000 in
theorem joined_any (w : World) (B : Nat) (v : Value) (y : ByteArray) (tl : List Int) (l : List Ms) (h : FlM w B v y tl l) (hs : StrL tl.length l) : Calls Tryd.prog 67 #[v] w (WkP w v) := by
  have HFl : Hid (FlM w B v y tl l) := h
  obtain ⟨tv, sv, rfl, h1, h2⟩ := h
  obtain ⟨tq, tc, rfl⟩ := own_slice h1
  obtain ⟨sq, sc, rfl⟩ := own_slice h2
  obtain ⟨nt, hnt⟩ : ∃ nt, tl.length = nt := ⟨_, rfl⟩
  obtain ⟨ns, hns⟩ : ∃ ns, l.length = ns := ⟨_, rfl⟩
  rw [hnt] at hs HFl
  rw [hns] at HFl
  have hp := hs.pos
  have hle := hs.le
  rw [hns] at h2 hp hle
  have HR : Hid (l.length = ns ∧ StrL nt l) := ⟨hns, hs⟩
  have hmm : ∀ W : World, (Instr.makeMap 69 none).run Tryd.prog W = .ok (.map (some W.heap.size)) (W.alloc (.map #[] 0)) := fun W => by simp [Instr.makeMap, go_sem]
  have hmf : ∀ (fn : Fn) (first cap : Array Value) (w : World), (Instr.makeFunc fn first cap).run Tryd.prog w = .ok (.func fn first cap) w := fun _ _ _ _ => rfl
  have hmk := mk_bools ns (by omega)
  have HSt : Hid (∀ (W : World) (i : Nat) (s : Ms), Below w.heap.size w W → l[i]? = some s → ∃ g, sq = some ⟨g, 0, none⟩ ∧ W.cell? ⟨g, i * 10, none⟩ = some (.int .i64 s.code) ∧ W.cell? ⟨g, i * 10 + 7, none⟩ = some (.int .i64 0)) := fun W i s hb hi => by
    obtain ⟨g, e, hc⟩ := row_step (own_at h2 (fun k hk => hb.block k (own_lt h2 k hk))) hi
    have h0 := hc 0 (by omega)
    rw [Nat.add_zero] at h0
    have h7 := hc 7 (by omega)
    have : (sC s)[7]? = some (.int .i64 0) := by show some (Value.int .i64 s.label) = _; rw [hs.lab s (List.mem_of_getElem? hi)]
    exact ⟨g, e, h0, h7.trans this⟩
  obtain ⟨A, hA⟩ : ∃ A : Obj, A = .cells #[.string y, .int .i64 0, .slice tq nt tc, .slice sq ns sc] 35 := ⟨_, rfl⟩
  obtain ⟨W5, hW5⟩ : ∃ W5, W5 = ((((w.alloc A).alloc fnZ).alloc (.map #[] 0)).alloc (.cells (Array.replicate ns (Value.bool false)) 4)).alloc (.cells #[.slice (some ⟨w.heap.size + 3, 0, none⟩) ns ns] 120) := ⟨_, rfl⟩
  have hz1 : (w.alloc A).heap.size = w.heap.size + 1 := by simp
  have hz2 : ((w.alloc A).alloc fnZ).heap.size = w.heap.size + 2 := by simp
  have hz3 : (((w.alloc A).alloc fnZ).alloc (.map #[] 0)).heap.size = w.heap.size + 3 := by simp
  have hz4 : ((((w.alloc A).alloc fnZ).alloc (.map #[] 0)).alloc (.cells (Array.replicate ns (Value.bool false)) 4)).heap.size = w.heap.size + 4 := by simp
  have hb5 : Below w.heap.size w W5 := by
    rw [hW5]
    exact (((((Below.refl _ _).alloc (Nat.le_refl _) A).alloc (by omega) fnZ).alloc (by omega) (.map #[] 0)).alloc (by omega) _).alloc (by omega) _
  have k0 : W5.heap[w.heap.size]? = some (.cells #[.string y, .int .i64 0, .slice tq nt tc, .slice sq ns sc] 35) := by rw [hW5, row_eq_alloc (by omega), row_eq_alloc (by omega), row_eq_alloc (by omega), row_eq_alloc (by omega), heap_alloc_last, hA]
  have k1 : W5.heap[w.heap.size + 1]? = some fnZ := by rw [hW5, row_eq_alloc (by omega), row_eq_alloc (by omega), row_eq_alloc (by omega), ← hz1, heap_alloc_last]
  have k2 : Mp 3 W5 (w.heap.size + 2) (fun _ => none) 0 := by
    have hm := Mp.made 3 ((w.alloc A).alloc fnZ)
    rw [hz2] at hm
    exact hm.kept (by rw [hW5, row_eq_alloc (by omega), row_eq_alloc (by omega)])
  have k3 : W5.heap[w.heap.size + 3]? = some (.cells (Array.replicate ns (Value.bool false)) 4) := by rw [hW5, row_eq_alloc (by omega), ← hz3, heap_alloc_last]
  have k4 : W5.heap[w.heap.size + 4]? = some (.cells #[.slice (some ⟨w.heap.size + 3, 0, none⟩) ns ns] 120) := by rw [hW5, ← hz4, heap_alloc_last]
  have HW : Hid (Below w.heap.size w W5 ∧ W5.heap[w.heap.size]? = some (.cells #[.string y, .int .i64 0, .slice tq nt tc, .slice sq ns sc] 35) ∧ W5.heap[w.heap.size + 1]? = some fnZ ∧ Mp 3 W5 (w.heap.size + 2) (fun _ => none) 0 ∧ W5.heap[w.heap.size + 3]? = some (.cells (Array.replicate ns (Value.bool false)) 4) ∧ W5.heap[w.heap.size + 4]? = some (.cells #[.slice (some ⟨w.heap.size + 3, 0, none⟩) ns ns] 120)) := ⟨hb5, k0, k1, k2, k3, k4⟩
  have HG : Hid (∀ W, Below w.heap.size w W → WkP w (.agg #[.string y, .int .i64 0, .slice tq nt tc, .slice sq ns sc]) (.returned (.agg #[.string y, .int .i64 0, .slice tq nt tc, .slice sq ns sc])) W) := fun W hb => ⟨rfl, hb⟩
  rw [hnt, hns]
  generalize WkP w (.agg #[.string y, .int .i64 0, .slice tq nt tc, .slice sq ns sc]) = G at HG ⊢
  rw [hA] at hW5
  clear h1 h2 hs hb5 k0 k1 k2 k3 k4 hA hnt hns hz1 hz2 hz3 hz4
  go_enter Tryd.func67, Tryd.ntmps67
  go_wp2_with fail
  rw [← hW5]
  clear hW5 hmk
  have HLk : Hid ((Instr.lookup 69 (.map (some (w.heap.size + 1 + 1))) (.int .i64 0) true).run Tryd.prog W5 = .ok (.tuple #[.int .i64 0, .bool false]) W5) := HW.out.2.2.2.1.look2 kdI und69 (zero3 W5) (key_i 0 ⟨by omega, by omega⟩)
  go_loopw [7] (fun v wr => ∃ k : Nat, k ≤ ns ∧ v = .int .i64 ((k : Int) - 1) ∧ Hid (wr = W5)) (fun v _ => (intOf v + 1).toNat)
  case atStart => exact ⟨ns, Nat.le_refl _, rfl, rfl⟩
  case round =>
    obtain ⟨k, hkn, rfl, HWr⟩ := hrel
    obtain rfl := HWr.out
    clear HWr
    have x3 := cell_at (i := 3) HW.out.2.1 rfl
    have lk := HLk.out
    rcases Nat.eq_zero_or_pos k with rfl | hk
    · go_wp2_with fail
      go_loopw [97] (fun v w2 => ∃ i : Nat, i ≤ ns ∧ v = .int .i64 i ∧ Hid (w2 = wr)) (fun v _ => ns - (intOf v).toNat)
      case atStart => exact ⟨0, Nat.zero_le _, rfl, rfl⟩
      case round =>
        obtain ⟨i, hin, rfl, HWr⟩ := hrel
        obtain rfl := HWr.out
        clear HWr
        by_cases hlt : i < ns
        · obtain ⟨s, hsi⟩ : ∃ s, l[i]? = some s := ⟨l[i]'(by have := HR.out.1; omega), List.getElem?_eq_getElem _⟩
          obtain ⟨g, rfl, z0, z7⟩ := HSt.out wr i s HW.out.1 hsi
          have hl9 : (i : Int) < (ns : Int) := by omega
          clear hsi
          go_wp2
          exact ⟨⟨i + 1, by omega, by go_num, by trivial⟩, by simp [intOf]; omega⟩
        · have x0 := cell_at (i := 0) HW.out.2.1 rfl
          have x1 := cell_at (i := 1) HW.out.2.1 rfl
          have x2 := cell_at (i := 2) HW.out.2.1 rfl
          have HWo : Hid (Calls Tryd.prog 68 #[.agg #[.string y, .int .i64 0, .slice tq nt tc, .slice sq ns sc], .func (.func 85) #[] #[ptr (w.heap.size + 1 + 1 + 1 + 1)]] wr (WkP wr (.agg #[.string y, .int .i64 0, .slice tq nt tc, .slice sq ns sc]))) := by
            refine without_85 wr B _ y tl l (w.heap.size + 4) (HFl.out.below HW.out.1) (by rw [HR.out.1]; exact hp) (by rw [HR.out.1]; exact hle) (fun W i hb hi => ?_)
            rw [HR.out.1] at hi
            have e4 : W.heap[w.heap.size + 4]? = some (.cells #[.slice (some ⟨w.heap.size + 3, 0, none⟩) ns ns] 120) := by rw [hb.block _ (Array.getElem?_eq_some_iff.1 HW.out.2.2.2.2.2).1]; exact HW.out.2.2.2.2.2
            have e3 : W.heap[w.heap.size + 3]? = some (.cells (Array.replicate ns (Value.bool false)) 4) := by rw [hb.block _ (Array.getElem?_eq_some_iff.1 HW.out.2.2.2.2.1).1]; exact HW.out.2.2.2.2.1
            exact gone_85 W _ _ ns i (cell_at (i := 0) e4 rfl) (cell_at e3 (by rw [Array.getElem?_replicate, if_pos hi])) hi hle
          clear lk
          go_wp2_with (go_at_call 68; fail)
          refine HWo.out.mono ?_
          rintro e w7 ⟨rfl, hb7⟩
          have k1 : w7.heap[w.heap.size + 1]? = some fnZ := by rw [hb7.block _ (Array.getElem?_eq_some_iff.1 HW.out.2.2.1).1]; exact HW.out.2.2.1
          have HK1 : Hid (w7.heap[w.heap.size + 1]? = some fnZ ∧ Below w.heap.size w w7) := ⟨k1, HW.out.1.trans (hb7.mono HW.out.1.size)⟩
          have z0 := cell_at (i := 0) k1 rfl
          have z1 := cell_at (i := 1) k1 rfl
          have z2 := cell_at (i := 2) k1 rfl
          have z3 := cell_at (i := 3) k1 rfl
          have g0 := row_free k1 0
          have g1 := row_free k1 1
          have g2 := row_free k1 2
          have g3 := row_free k1 3
          clear k1 hb7
          go_wp2
          refine bodyPost_ret (res67 _ _ (w.heap.size + 1) _ _ _ _ rfl (set4 HK1.out.1)) rfl ?_
          exact HG.out _ ((((HK1.out.2.setCell (p := ⟨w.heap.size + 1, 0, none⟩) (by show w.heap.size ≤ w.heap.size + 1; omega) _).setCell (p := ⟨w.heap.size + 1, 1, none⟩) (by show w.heap.size ≤ w.heap.size + 1; omega) _).setCell (p := ⟨w.heap.size + 1, 2, none⟩) (by show w.heap.size ≤ w.heap.size + 1; omega) _).setCell (p := ⟨w.heap.size + 1, 3, none⟩) (by show w.heap.size ≤ w.heap.size + 1; omega) _)
    · obtain ⟨j, rfl⟩ : ∃ j, k = j + 1 := ⟨k - 1, by omega⟩
      have ej : (((j + 1 : Nat) : Int) - 1) = (j : Int) := by omega
      rw [ej]
      obtain ⟨s, hsi⟩ : ∃ s, l[j]? = some s := ⟨l[j]'(by have := HR.out.1; omega), List.getElem?_eq_getElem _⟩
      obtain ⟨g, rfl, z0, z7⟩ := HSt.out wr j s HW.out.1 hsi
      have hc := (HR.out.2.all s (List.mem_of_getElem? hsi)).code
      obtain ⟨cd, hcd⟩ : ∃ cd, s.code = cd := ⟨_, rfl⟩
      rw [hcd] at z0 hc
      have t6 : (cd == 6) = false := by rcases hc with h | h | h | h <;> rw [h] <;> decide
      have HJ : Hid (Calls Tryd.prog 70 #[.pointer (some ⟨g, j * 10, none⟩)] wr (fun e w' => e = .returned (.bool false) ∧ w' = wr)) := jumps_any wr g (j * 10) cd z0 (by rcases hc with h | h | h | h <;> rw [h] <;> decide) (by rcases hc with h | h | h | h <;> rw [h] <;> decide)
      have hl9 : (j : Int) < (ns : Int) := by omega
      clear hsi hcd hc ej
      go_wp2_with (go_at_call 70; fail)
      refine HJ.out.mono ?_
      rintro e w' ⟨rfl, rfl⟩
      go_wp2
      exact ⟨⟨j, by omega, rfl, by trivial⟩, by simp [intOf]⟩
end Go.Proofs.YtjmbjpimabnohaaDoor.Mid
