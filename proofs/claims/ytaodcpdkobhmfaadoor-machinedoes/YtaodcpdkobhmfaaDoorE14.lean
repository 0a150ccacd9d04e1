/- Decode of the document's own answer, walked. -/
import Derived.Test.YtaodcpdkobhmfaaDoorE15
import Derived.BigRegion
namespace Go.Proofs.YtaodcpdkobhmfaaDoor
open Go Go.RowKit

theorem range_of_row {w : World} {g : Nat} {cs : List Value} {t : TypeId} (h : w.heap[g]? = some (.cells cs.toArray t)) : w.rangeAt g 0 cs := by
  intro j v hv
  rw [cell_of_row _ _ _ _ _ _ h]
  simpa using hv
theorem iter_set (w : World) (s : ByteArray) (p g i : Nat) (v : Value) (h : g < w.heap.size) : (w.iter s p).setCell ⟨g, i, none⟩ v = (w.setCell ⟨g, i, none⟩ v).iter s p := World.setCell_alloc_past _ _ _ _ h
theorem iterPos_at (w : World) (s : ByteArray) (p n : Nat) (h : w.heap.size = n) : iterPos (w.iter s p) n = p := by subst h; exact iterPos_iter _ _ _
theorem iter_row (w : World) (s : ByteArray) (p g : Nat) (cs : Array Value) (t : TypeId) (hg : w.heap[g]? = some (.cells cs t)) : (w.iter s p).heap[g]? = some (.cells cs t) :=
  (Below.heap_alloc w _ g (Array.getElem?_eq_some_iff.mp hg).1).trans hg
theorem wrap_idem (x y : Int) : wrap64 (wrap64 x + y) = wrap64 (x + y) := by unfold wrap64; omega
theorem wrap_idem2 (x y : Int) : wrap64 (wrap64 x + wrap64 y) = wrap64 (x + y) := by unfold wrap64; omega
theorem nsum_wrap (W : Int) (F C T : Nat → Nat) (j : Nat) : wrap64 (nsum W F C T j) = nsum W F C T j := by
  cases j with
  | zero => simp [nsum, wrap64]
  | succ j => simp only [nsum]; unfold wrap64; omega
theorem dstep (W y1 : Int) (f t q : Nat) (h0 : 0 ≤ W) (h1 : W < 4294967296) :
    wrap64 (wrap64 (y1 + W / (2 : Int) ^ t % (2 : Int) ^ q * (2 : Int) ^ f) + wrap64 (wrap64 (bits .and .u32 (W / (2 : Int) ^ (t + q)) 1) * (2 : Int) ^ (f + q))) = wrap64 (y1 + W / (2 : Int) ^ t % (2 : Int) ^ (q + 1) * (2 : Int) ^ f) := by
  have hp : 0 < (2 : Int) ^ (t + q) := by exact_mod_cast Nat.two_pow_pos (t + q)
  have k0 : 0 ≤ W / (2 : Int) ^ (t + q) := Int.ediv_nonneg h0 (by omega)
  have k1 : W / (2 : Int) ^ (t + q) ≤ W := Int.ediv_le_self _ h0
  have e1 : bits .and .u32 (W / (2 : Int) ^ (t + q)) 1 = W / (2 : Int) ^ (t + q) % 2 := by
    rw [and32 _ 1 k0 (by omega) (by omega) (by omega)]
    have e : (1 : Int).toNat = 2 ^ 1 - 1 := rfl
    rw [e, Nat.and_two_pow_sub_one_eq_mod]
    omega
  have e2 : wrap64 (W / (2 : Int) ^ (t + q) % 2) = W / (2 : Int) ^ (t + q) % 2 := by unfold wrap64; omega
  rw [e1, e2, wrap_idem2, bit_step, Int.add_mul, Int.mul_assoc _ ((2 : Int) ^ q), ← Int.pow_add, Nat.add_comm q f, Int.add_assoc]
theorem wrap_pow (k : Nat) (h : k ≤ 32) : wrap64 ((2 : Int) ^ k) = (2 : Int) ^ k := by
  have h1 : (2 : Int) ^ k ≤ 2 ^ 32 := by
    have : (2 : Nat) ^ k ≤ 2 ^ 32 := Nat.pow_le_pow_right (by omega) h
    exact_mod_cast this
  have h2 : 0 < (2 : Int) ^ k := by exact_mod_cast Nat.two_pow_pos k
  unfold wrap64; omega
/-- What an op's form is, for Decode. -/
structure OpD (j : Int) (W : Int) (l d a b n : Int) : Prop where
  ex : ∃ (kc m h bt f : Int) (hs : ByteArray), FormAt j kc l m h ∧ (∀ w, Calls Tryd.prog 47 #[.int .u8 kc] w fun e w' => e = .returned (.string hs) ∧ w' = w) ∧
    (∀ p (h : p < hs.size), (hs[p]'h).toNat < 128) ∧ (∀ w, Calls Tryd.prog 49 #[.int .u8 kc] w fun e w' => e = .returned (.tuple #[.int .i64 bt, .int .i64 f]) ∧ w' = w) ∧
    (bt = 0 ∨ 1 ≤ bt ∧ bt ≤ 32) ∧ rgV W hs.data.toList = (d, a, b) ∧
    (((∀ w, Calls Tryd.prog 48 #[.int .u8 kc] w fun e w' => e = .returned (.slice none 0 0) ∧ w' = w) ∧ bt = 0 ∧ n = 0) ∨
     ∃ (np : Nat) (cs : Array Value) (F C T : Nat → Nat), np ≤ 4 ∧ (∀ w, Calls Tryd.prog 48 #[.int .u8 kc] w fun e w' => e = .returned (.slice (some ⟨w.heap.size, 0, none⟩) np np) ∧ w' = w.alloc (.cells cs 97)) ∧
      (∀ j, j < np → cs[j * 3]? = some (.int .i64 (F j)) ∧ cs[j * 3 + 1]? = some (.int .i64 (C j)) ∧ cs[j * 3 + 2]? = some (.int .i64 (T j))) ∧
      (∀ j, j < np → F j ≤ 20 ∧ C j ≤ 20 ∧ T j ≤ 31 ∧ T j + C j ≤ 32) ∧ n = sgD bt (nsum W F C T np))

theorem res11 (tmps : Array Value) (w : World) (g : Nat) (a b c d e : Value) (hp : tmps.getD 2 undef = .pointer (some ⟨g, 0, none⟩)) (hg : w.heap[g]? = some (.cells #[a, b, c, d, e] 71)) :
    (results Tryd.f32 tmps).run Tryd.prog w = .ok (.tuple #[.agg #[a, b, c, d, e], tmps.getD 3 undef]) w := by
  rw [results_cell_tmp Tryd.results32, hp]
  have h1 : (loadVar 71 ⟨g, 0, none⟩).run Tryd.prog w = .ok (.agg #[a, b, c, d, e]) w := run_loadVar_row w g 71 71 _ (0, 0) _ hg Tryd.underlying71 rfl (by kernel_rfl)
  simp only [asAddr, Sem.run_pure, Result.andThen_ok, h1]

set_option maxRecDepth 100000 in
set_option maxHeartbeats 8000000 in
theorem decdoc_core (W : Int) (R : Value) (w : World) (hW0 : 0 ≤ W) (hW1 : W < 4294967296) (L D A B N : Nat → Int) (hit : Nat → Prop)
    (hOp : ∀ j : Nat, 1 ≤ j → j ≤ 31 → OpD j W (L j) (D j) (A j) (B j) (N j))
    (hHit : ∀ j, hit j → j ≤ 31 ∧ (1 ≤ j → W % 128 = L j ∧ Rt j (D j) (A j) (B j) (N j) = true ∧ Wd j (D j) (A j) (B j) (N j) = W))
    (hYes : ∀ j : Nat, 1 ≤ j → j ≤ 31 → Rt j (D j) (A j) (B j) (N j) = true → Wd j (D j) (A j) (B j) (N j) = W → R = .tuple #[instV j (D j) (A j) (B j) (N j), .int .i64 0])
    (hNo : (∀ j, 1 ≤ j → ¬ hit j) → R = .tuple #[.agg zero5, .int .i64 3]) :
    Calls Tryd.prog 32 #[.int .u32 W] w fun e w' => e = .returned R ∧ Below w.heap.size w w' := by
  have HO : Hid (∀ j : Nat, 1 ≤ j → j ≤ 31 → OpD j W (L j) (D j) (A j) (B j) (N j)) := hOp
  have HH : Hid (∀ j, hit j → j ≤ 31 ∧ (1 ≤ j → W % 128 = L j ∧ Rt j (D j) (A j) (B j) (N j) = true ∧ Wd j (D j) (A j) (B j) (N j) = W)) := hHit
  have HY : Hid (∀ j : Nat, 1 ≤ j → j ≤ 31 → Rt j (D j) (A j) (B j) (N j) = true → Wd j (D j) (A j) (B j) (N j) = W → R = .tuple #[instV j (D j) (A j) (B j) (N j), .int .i64 0]) := hYes
  have HN : Hid ((∀ j, 1 ≤ j → ¬ hit j) → R = .tuple #[.agg zero5, .int .i64 3]) := hNo
  clear hOp hHit hYes hNo
  have hand : bits .and .u32 W 127 = W % 128 := by
    have := and32 W 127 hW0 hW1 (by omega) (by omega)
    rw [this]
    have e : (127 : Int).toNat = 2 ^ 7 - 1 := rfl
    rw [e, Nat.and_two_pow_sub_one_eq_mod]
    omega
  go_enter Tryd.func32, Tryd.ntmps32
  go_wp2_with fail
  go_loopw [3, 4] (fun e i wr => ∃ o : Nat, 1 ≤ o ∧ o ≤ 40 ∧ e = .int .i64 0 ∧ i = .int .i64 o ∧ Hid (∀ j, 1 ≤ j → j < o → ¬ hit j) ∧ Below (w.heap.size + 1) (w.alloc (.cells zero5 71)) wr) (fun _ i _ => 40 - (intOf i).toNat)
  case atStart => exact ⟨1, by omega, by omega, rfl, rfl, fun j h1 h2 => by omega, Below.refl _ _⟩
  case round =>
    obtain ⟨o, ho1, ho, rfl, rfl, HJ, hb⟩ := hrel
    have HB : Hid (Below (w.heap.size + 1) (w.alloc (.cells zero5 71)) wr) := hb
    have hzr : w.heap.size + 1 ≤ wr.heap.size := by have := hb.size; simp at this; exact this
    have HROW : Hid (wr.heap[w.heap.size]? = some (.cells zero5 71)) := by
      show _ = _
      rw [hb.block _ (by omega)]
      exact heap_alloc_last w _
    clear hb
    by_cases ho40 : o < 40
    · by_cases ho31 : o ≤ 31
      · obtain ⟨⟨kc, m, h, bt, f, hs, hF, hH, hasc, hS, hbt, hrg, hpc⟩⟩ := HO.out o ho1 ho31
        have HHo : Hid (hit o → W % 128 = L o ∧ Rt o (D o) (A o) (B o) (N o) = true ∧ Wd o (D o) (A o) (B o) (N o) = W) := fun hj => (HH.out o hj).2 ho1
        have HYo := HY.out o ho1 ho31
        have HNx : Hid (¬ hit o → Hid (∀ j, 1 ≤ j → j < o + 1 → ¬ hit j)) := fun hn j h1 h2 hj => by
          by_cases e : j = o
          · subst e; exact hn hj
          · exact HJ.out j h1 (by omega) hj
        have HYo' : Hid (Rt o (D o) (A o) (B o) (N o) = true → Wd o (D o) (A o) (B o) (N o) = W → R = .tuple #[instV o (D o) (A o) (B o) (N o), .int .i64 0]) := HYo
        have HRG : Hid (rgV W hs.data.toList = (D o, A o, B o)) := hrg
        have HPC := hpc
        clear HYo hrg hpc HO HH HY HN HJ
        generalize L o = l at *
        generalize D o = d at *
        generalize A o = a at *
        generalize B o = b at *
        generalize N o = n at *
        go_wp2_with (go_at_call 33; fail)
        refine (hF _).mono ?_
        rintro e w1 ⟨⟨s, rfl⟩, hb⟩
        obtain ⟨w2, hw2⟩ : ∃ w2, w2 = (w1.alloc (.cells zero45 79)).setRow w1.heap.size #[Value.int .u8 kc, .int .u32 l, .int .u32 m, .int .u32 h, .string s] := ⟨_, rfl⟩
        have hsz := hb.size
        have hb2 : Below wr.heap.size wr w2 := by
          rw [hw2]; exact below_setRow (hb.alloc (by omega) _) (by omega) _
        have G1 : w2.heap[w1.heap.size]? = some (.cells #[Value.int .u8 kc, .int .u32 l, .int .u32 m, .int .u32 h, .string s] 79) := by
          rw [hw2]; exact setRow_heap _ _ _ _ _ _ (heap_alloc_last _ _)
        have HB2 : Hid (Below (w.heap.size + 1) (w.alloc (.cells zero5 71)) w2) := HB.out.trans (hb2.mono (by omega))
        have p0 : w2.cell? ⟨w1.heap.size, 0, none⟩ = some (.int .u8 kc) := by rw [cell_of_row _ _ _ _ _ _ G1]; rfl
        have p1 : w2.cell? ⟨w1.heap.size, 1, none⟩ = some (.int .u32 l) := by rw [cell_of_row _ _ _ _ _ _ G1]; rfl
        have L1 : w1.heap.size < w2.heap.size := (Array.getElem?_eq_some_iff.mp G1).1
        have HG1 : Hid (w2.heap[w1.heap.size]? = some (.cells #[Value.int .u8 kc, .int .u32 l, .int .u32 m, .int .u32 h, .string s] 79)) := G1
        have HW2 : Hid (w2 = _) := hw2
        have hw1z : w.heap.size + 1 ≤ w1.heap.size := by omega
        clear hb2 hb hw2 G1 HB hzr HROW hsz
        by_cases hlow : W % 128 = l
        · have hl1 : (W % 128 != l) = false := by simp [hlow]
          have HL : Hid (W % 128 = l) := hlow
          clear hlow
          go_wp2_with (first
            | (refine wpList_store_row rfl 79 _ _ rfl _ 79 _ _ rfl rfl (heap_alloc_last _ _) (by kernel_rfl) rfl (one45 _ _ _ _ _) ?_
               rw [← HW2.out]
               clear HW2)
            | (refine wpList_store_row rfl 71 _ _ rfl w2.heap.size 71 zero5 _ rfl rfl (heap_alloc_last _ _) (by kernel_rfl) rfl (one5 _ _ _ _ _) ?_
               obtain ⟨w3, hw3⟩ : ∃ w3, w3 = (w2.alloc (.cells zero5 71)).setRow w2.heap.size #[.int .i64 o, .int .i64 0, .int .i64 0, .int .i64 0, .int .i64 0] := ⟨_, rfl⟩
               rw [← hw3]
               have hb3 : Below w2.heap.size w2 w3 := by
                 rw [hw3]; exact below_setRow ((Below.refl _ _).alloc (Nat.le_refl _) _) (Nat.le_refl _) _
               have G7 : w3.heap[w2.heap.size]? = some (.cells #[.int .i64 o, .int .i64 0, .int .i64 0, .int .i64 0, .int .i64 0] 71) := by
                 rw [hw3]; exact setRow_heap _ _ _ _ _ _ (heap_alloc_last _ _)
               have HG5 : Hid (w3.heap[w1.heap.size]? = some (.cells #[Value.int .u8 kc, .int .u32 l, .int .u32 m, .int .u32 h, .string s] 79)) := by
                 show _ = _
                 rw [hb3.block _ L1]; exact HG1.out
               have q0 : w3.cell? ⟨w1.heap.size, 0, none⟩ = some (.int .u8 kc) := by rw [cell_of_row _ _ _ _ _ _ HG5.out]; rfl
               have HB3 : Hid (Below (w.heap.size + 1) (w.alloc (.cells zero5 71)) w3) := HB2.out.trans (hb3.mono (by omega))
               have L7 : w2.heap.size < w3.heap.size := (Array.getElem?_eq_some_iff.mp G7).1
               have HG7 : Hid (w3.heap[w2.heap.size]? = some (.cells #[.int .i64 o, .int .i64 0, .int .i64 0, .int .i64 0, .int .i64 0] 71)) := G7
               clear hb3 hw3 G7 p0 p1 HG1 HB2)
            | (go_at_call 47; refine (hH _).mono ?_; rintro e w3 ⟨rfl, rfl⟩))
          go_loopw [9] (fun _ wr => ∃ (k : Nat) (d' a' b' : Int) (wX : World), k ≤ hs.size ∧ wr = wX.iter hs k ∧ wX.heap.size = w3.heap.size ∧ Hid (rgV W (hs.data.toList.take k) = (d', a', b')) ∧ Hid (wX.heap[w2.heap.size]? = some (.cells #[.int .i64 o, .int .i64 d', .int .i64 a', .int .i64 b', .int .i64 0] 71)) ∧ Hid (Below w2.heap.size w3 wX)) (fun _ wr => hs.size - iterPos wr w3.heap.size)
          case atStart => exact ⟨0, 0, 0, 0, w3, by omega, rfl, rfl, rfl, HG7.out, Below.refl _ _⟩
          case round =>
            obtain ⟨k, d', a', b', wX, hk, rfl, hX, HRk, HGX, HBX⟩ := hrel
            by_cases hi : k < hs.size
            · have hnx := fun ty => run_next_ascii (P := Tryd.prog) wX hs k ty hi (hasc k hi)
              rw [hX] at hnx
              have r1 : (wX.iter hs (k + 1)).cell? ⟨w2.heap.size, 1, none⟩ = some (.int .i64 d') := by rw [iter_cell _ _ _ _ _ _ _ HGX.out, cell_of_row _ _ _ _ _ _ HGX.out]; rfl
              have r2 : (wX.iter hs (k + 1)).cell? ⟨w2.heap.size, 2, none⟩ = some (.int .i64 a') := by rw [iter_cell _ _ _ _ _ _ _ HGX.out, cell_of_row _ _ _ _ _ _ HGX.out]; rfl
              have r3 : (wX.iter hs (k + 1)).cell? ⟨w2.heap.size, 3, none⟩ = some (.int .i64 b') := by rw [iter_cell _ _ _ _ _ _ _ HGX.out, cell_of_row _ _ _ _ _ _ HGX.out]; rfl
              have HS : Hid (rgV W (hs.data.toList.take (k + 1)) = rgS W (d', a', b') (hs[k]'hi).toNat) := by
                show _ = _
                rw [rgV_step W hs k hi, HRk.out]
              have L7X : w2.heap.size < wX.heap.size := by omega
              have GI := iter_row wX hs (k + 1) _ _ _ HGX.out
              have f1 := frozen_of_row _ _ 1 _ _ GI
              have f2 := frozen_of_row _ _ 2 _ _ GI
              have f3 := frozen_of_row _ _ 3 _ _ GI
              clear GI
              by_cases h100 : (hs[k]'hi).toNat = 100
              · have hq : (((hs[k]'hi).toNat : Int) == 100) = true := by simp [h100]
                have HV : Hid (rgV W (hs.data.toList.take (k + 1)) = (W / 128 % 32, a', b')) := by
                  show _ = _
                  rw [HS.out, rgS, if_pos h100]
                clear h100
                go_wp2
                refine ⟨⟨k + 1, _, _, _, wX.setCell ⟨w2.heap.size, 1, none⟩ _, by omega, iter_set _ _ _ _ _ _ L7X, by rw [World.size_setCell, hX], HV, ?_, HBX.out.setCell (Nat.le_refl _) _⟩, ?_⟩
                · show _ = _
                  rw [heap_setCell_same _ _ _ _ _ _ HGX.out]; rfl
                · rw [iter_set _ _ _ _ _ _ L7X, iterPos_at _ _ _ _ (by rw [World.size_setCell, hX]), iterPos_at _ _ _ _ hX]; omega
              · have hq : (((hs[k]'hi).toNat : Int) == 100) = false := by simp; omega
                by_cases h97 : (hs[k]'hi).toNat = 97
                · have hq' : (((hs[k]'hi).toNat : Int) == 97) = true := by simp [h97]
                  have HV : Hid (rgV W (hs.data.toList.take (k + 1)) = (d', W / 32768 % 32, b')) := by
                    show _ = _
                    rw [HS.out, rgS, if_neg h100, if_pos h97]
                  clear h97 h100
                  go_wp2
                  refine ⟨⟨k + 1, _, _, _, wX.setCell ⟨w2.heap.size, 2, none⟩ _, by omega, iter_set _ _ _ _ _ _ L7X, by rw [World.size_setCell, hX], HV, ?_, HBX.out.setCell (Nat.le_refl _) _⟩, ?_⟩
                  · show _ = _
                    rw [heap_setCell_same _ _ _ _ _ _ HGX.out]; rfl
                  · rw [iter_set _ _ _ _ _ _ L7X, iterPos_at _ _ _ _ (by rw [World.size_setCell, hX]), iterPos_at _ _ _ _ hX]; omega
                · have hq' : (((hs[k]'hi).toNat : Int) == 97) = false := by simp; omega
                  have HV : Hid (rgV W (hs.data.toList.take (k + 1)) = (d', a', W / 1048576 % 32)) := by
                    show _ = _
                    rw [HS.out, rgS, if_neg h100, if_neg h97]
                  clear h97 h100
                  go_wp2
                  refine ⟨⟨k + 1, _, _, _, wX.setCell ⟨w2.heap.size, 3, none⟩ _, by omega, iter_set _ _ _ _ _ _ L7X, by rw [World.size_setCell, hX], HV, ?_, HBX.out.setCell (Nat.le_refl _) _⟩, ?_⟩
                  · show _ = _
                    rw [heap_setCell_same _ _ _ _ _ _ HGX.out]; rfl
                  · rw [iter_set _ _ _ _ _ _ L7X, iterPos_at _ _ _ _ (by rw [World.size_setCell, hX]), iterPos_at _ _ _ _ hX]; omega
            · have hnx := fun ty => run_next_end (P := Tryd.prog) wX hs k ty hi
              rw [hX] at hnx
              obtain ⟨rfl, rfl, rfl⟩ : d' = d ∧ a' = a ∧ b' = b := by
                have e := HRk.out
                rw [List.take_of_length_le (by simp; omega), HRG.out] at e
                simp only [Prod.mk.injEq] at e
                exact ⟨e.1.symm, e.2.1.symm, e.2.2.symm⟩
              have HGI : Hid ((wX.iter hs k).heap[w2.heap.size]? = some (.cells #[.int .i64 o, .int .i64 d', .int .i64 a', .int .i64 b', .int .i64 0] 71)) := iter_row _ _ _ _ _ _ HGX.out
              have HG5I : Hid ((wX.iter hs k).heap[w1.heap.size]? = some (.cells #[Value.int .u8 kc, .int .u32 l, .int .u32 m, .int .u32 h, .string s] 79)) := by
                refine iter_row _ _ _ _ _ _ ?_
                rw [HBX.out.block _ L1]; exact HG5.out
              have HBI : Hid (Below w2.heap.size w3 (wX.iter hs k)) := HBX.out.alloc (by omega) _
              have LI : w2.heap.size < (wX.iter hs k).heap.size := (Array.getElem?_eq_some_iff.mp HGI.out).1
              have q5 : (wX.iter hs k).cell? ⟨w1.heap.size, 0, none⟩ = some (.int .u8 kc) := by rw [cell_of_row _ _ _ _ _ _ HG5I.out]; rfl
              clear q0 HGX HBX HG7 HG5 HRk
              rcases HPC with ⟨hP, hbt0, hn0⟩ | ⟨np, cs, F, C, T, hnp, hP, hcs, hfc, hn⟩
              · have Hbt : Hid (bt = 0) := hbt0
                subst hbt0
                subst hn0
                clear hbt
                go_wp2_with (go_at_call 48; refine (hP _).mono ?_; rintro e w4 ⟨rfl, hw4'⟩; have hw4 : Hid (w4 = wX.iter hs k) := hw4'; clear hw4')
                have HGE : Hid (w4.heap[w2.heap.size]? = some (.cells #[.int .i64 o, .int .i64 d', .int .i64 a', .int .i64 b', .int .i64 0] 71)) := by
                  show _ = _
                  rw [hw4.out]; exact HGI.out
                have HBE : Hid (Below (w.heap.size + 1) (w.alloc (.cells zero5 71)) w4) := by
                  show Below _ _ _
                  rw [hw4.out]; exact HB3.out.trans (HBI.out.mono (by omega))
                have q6 : w4.cell? ⟨w1.heap.size, 0, none⟩ = some (.int .u8 kc) := by rw [hw4.out]; exact q5
                clear q5 HGI HG5I HBI LI hw4 hnx
                go_loopw [68] (fun i wr => i = .int .i64 0 ∧ wr = w4) (fun _ _ => 0)
                case atStart => exact ⟨rfl, rfl⟩
                case round =>
                  obtain ⟨rfl, hwr⟩ := hrel
                  have hwr' := hwr.symm
                  subst hwr'
                  have RE : Hid (World.rangeAt (w4) w2.heap.size 0 [.int .i64 o, .int .i64 d', .int .i64 a', .int .i64 b', .int .i64 0]) := range_of_row HGE.out
                  have LE : w2.heap.size < (w4).heap.size := (Array.getElem?_eq_some_iff.mp HGE.out).1
                  have LZ : w.heap.size + 1 ≤ w2.heap.size := by omega
                  cases hR : Rt o d' a' b' 0 with
                  | false =>
                    have HX : Hid (Hid (∀ j, 1 ≤ j → j < o + 1 → ¬ hit j)) := HNx.out fun hj => by
                      have e := (HHo.out hj).2.1
                      rw [hR] at e
                      exact absurd e (by simp)
                    have hE := fun w => encdoc_no o d' a' b' 0 w hR
                    clear hR HNx HHo HYo'
                    go_wp2_with (go_at_call 49; refine (hS _).mono ?_; rintro e w4 ⟨rfl, rfl⟩)
                    go_quiet (fail)
                    go_wp2_with (first
                      | (refine wpList_load_w rfl 71 _ rfl w2.heap.size 0 rfl [.int .i64 o, .int .i64 d', .int .i64 a', .int .i64 b', .int .i64 0] _ (by first | exact RE.out | exact R5.out) Tryd.underlying71 rfl (by kernel_rfl) ?_)
                      | (go_at_call 50; refine (hE _).mono ?_; rintro e w5 ⟨rfl, hb5⟩
                         have R5 : Hid (w5.rangeAt w2.heap.size 0 [.int .i64 o, .int .i64 d', .int .i64 a', .int .i64 b', .int .i64 0]) := rangeAt_below (w := w4.drewN _) RE.out hb5 LE
                         have B5 : Hid (Below (w.heap.size + 1) (w.alloc (.cells zero5 71)) w5) := (below_drewN HBE.out _).trans (hb5.mono (by simp; omega))
                         have H05 : Hid (w5.heap[w.heap.size]? = some (.cells zero5 71)) := by
                           show _ = _
                           rw [B5.out.block _ (by omega)]; exact heap_alloc_last w _
                         clear hb5)
                      | (refine wpList_store_row rfl 71 _ _ rfl w.heap.size 71 _ _ rfl rfl H05.out (by kernel_rfl) rfl (one5 _ _ _ _ _) ?_))
                    exact ⟨⟨o + 1, by omega, by omega, rfl, by simp, HX.out, B5.out⟩, by simp [intOf]; omega⟩
                  | true =>
                    have hE := fun w => encdoc_ok o d' a' b' 0 w hR
                    cases hWd : Wd o d' a' b' 0 == W with
                    | false =>
                      have HX : Hid (Hid (∀ j, 1 ≤ j → j < o + 1 → ¬ hit j)) := HNx.out fun hj => by
                        have e := (HHo.out hj).2.2
                        rw [e] at hWd
                        exact absurd hWd (by simp)
                      clear hR HNx HHo HYo'
                      go_wp2_with (go_at_call 49; refine (hS _).mono ?_; rintro e w4 ⟨rfl, rfl⟩)
                      go_quiet (fail)
                      go_wp2_with (first
                        | (refine wpList_load_w rfl 71 _ rfl w2.heap.size 0 rfl [.int .i64 o, .int .i64 d', .int .i64 a', .int .i64 b', .int .i64 0] _ (by first | exact RE.out | exact R5.out) Tryd.underlying71 rfl (by kernel_rfl) ?_)
                        | (go_at_call 50; refine (hE _).mono ?_; rintro e w5 ⟨rfl, hb5⟩
                           have R5 : Hid (w5.rangeAt w2.heap.size 0 [.int .i64 o, .int .i64 d', .int .i64 a', .int .i64 b', .int .i64 0]) := rangeAt_below (w := w4.drewN _) RE.out hb5 LE
                           have B5 : Hid (Below (w.heap.size + 1) (w.alloc (.cells zero5 71)) w5) := (below_drewN HBE.out _).trans (hb5.mono (by simp; omega))
                           have H05 : Hid (w5.heap[w.heap.size]? = some (.cells zero5 71)) := by
                             show _ = _
                             rw [B5.out.block _ (by omega)]; exact heap_alloc_last w _
                           clear hb5)
                        | (refine wpList_store_row rfl 71 _ _ rfl w.heap.size 71 _ _ rfl rfl H05.out (by kernel_rfl) rfl (one5 _ _ _ _ _) ?_))
                      exact ⟨⟨o + 1, by omega, by omega, rfl, by simp, HX.out, B5.out⟩, by simp [intOf]; omega⟩
                    | true =>
                      have HX : Hid (R = _) := HYo'.out hR (by simpa using hWd)
                      clear hR HNx HHo HYo'
                      go_wp2_with (go_at_call 49; refine (hS _).mono ?_; rintro e w4 ⟨rfl, rfl⟩)
                      go_quiet (fail)
                      go_wp2_with (first
                        | (refine wpList_load_w rfl 71 _ rfl w2.heap.size 0 rfl [.int .i64 o, .int .i64 d', .int .i64 a', .int .i64 b', .int .i64 0] _ (by first | exact RE.out | exact R5.out) Tryd.underlying71 rfl (by kernel_rfl) ?_)
                        | (go_at_call 50; refine (hE _).mono ?_; rintro e w5 ⟨rfl, hb5⟩
                           have R5 : Hid (w5.rangeAt w2.heap.size 0 [.int .i64 o, .int .i64 d', .int .i64 a', .int .i64 b', .int .i64 0]) := rangeAt_below (w := w4.drewN _) RE.out hb5 LE
                           have B5 : Hid (Below (w.heap.size + 1) (w.alloc (.cells zero5 71)) w5) := (below_drewN HBE.out _).trans (hb5.mono (by simp; omega))
                           have H05 : Hid (w5.heap[w.heap.size]? = some (.cells zero5 71)) := by
                             show _ = _
                             rw [B5.out.block _ (by omega)]; exact heap_alloc_last w _
                           clear hb5)
                        | (refine wpList_store_row rfl 71 _ _ rfl w.heap.size 71 _ _ rfl rfl H05.out (by kernel_rfl) rfl (one5 _ _ _ _ _) ?_))
                      rw [HX.out]
                      exact bodyPost_ret (res11 _ _ w.heap.size _ _ _ _ _ rfl (setRow_heap w5 _ _ _ _ _ H05.out)) rfl ⟨rfl, below_setRow (((Below.refl _ _).alloc (Nat.le_refl _) _).trans (B5.out.mono (by omega))) (Nat.le_refl _) _⟩
              · go_wp2_with (go_at_call 48; refine (hP _).mono ?_; rintro e w4 ⟨rfl, hw4'⟩; have hw4 : Hid (w4 = (wX.iter hs k).alloc (.cells cs 97)) := hw4'; clear hw4')
                have hB4 : Below (wX.iter hs k).heap.size (wX.iter hs k) w4 := by rw [hw4.out]; exact (Below.refl _ _).alloc (Nat.le_refl _) _
                have HP4 : Hid (w4.heap[(wX.iter hs k).heap.size]? = some (.cells cs 97)) := by
                  show _ = _
                  rw [hw4.out]; exact heap_alloc_last _ _
                have HG4 : Hid (w4.heap[w2.heap.size]? = some (.cells #[.int .i64 o, .int .i64 d', .int .i64 a', .int .i64 b', .int .i64 0] 71)) := by
                  show _ = _
                  rw [hB4.block _ LI]; exact HGI.out
                have HB4 : Hid (Below w2.heap.size w3 w4) := HBI.out.trans (hB4.mono (by omega))
                have L4 : (wX.iter hs k).heap.size < w4.heap.size := (Array.getElem?_eq_some_iff.mp HP4.out).1
                have HG54 : Hid (w4.heap[w1.heap.size]? = some (.cells #[Value.int .u8 kc, .int .u32 l, .int .u32 m, .int .u32 h, .string s] 79)) := by
                  show _ = _
                  rw [hB4.block _ (by omega)]; exact HG5I.out
                have HN0 : Hid (n = sgD bt (nsum W F C T np)) := hn
                clear hw4 hB4 q5 HGI HG5I HBI hn hnx
                generalize (wX.iter hs k).heap.size = gP at *
                go_loopw [68] (fun i wr => ∃ (j : Nat) (y : Int), j ≤ np ∧ i = .int .i64 j ∧ Hid (y = nsum W F C T j) ∧ Hid (wr.heap[w2.heap.size]? = some (.cells #[.int .i64 o, .int .i64 d', .int .i64 a', .int .i64 b', .int .i64 y] 71)) ∧ Hid (wr.heap[gP]? = some (.cells cs 97)) ∧ Hid (Below w2.heap.size w3 wr) ∧ gP < wr.heap.size) (fun i _ => np - (intOf i).toNat)
                case atStart => exact ⟨0, 0, by omega, rfl, rfl, HG4.out, HP4.out, HB4.out, L4⟩
                case round =>
                  obtain ⟨j, y1, hj, rfl, HY1, HGr, HPr, HBr, Lr⟩ := hrel
                  by_cases hjn : j < np
                  · obtain ⟨e0, e1, e2⟩ := hcs j hjn
                    have u0 : wr.cell? ⟨gP, j * 3, none⟩ = some (.int .i64 (F j)) := by rw [cell_of_row _ _ _ _ _ _ HPr.out]; exact e0
                    have u1 : wr.cell? ⟨gP, j * 3 + 1, none⟩ = some (.int .i64 (C j)) := by rw [cell_of_row _ _ _ _ _ _ HPr.out]; exact e1
                    have u2 : wr.cell? ⟨gP, j * 3 + 2, none⟩ = some (.int .i64 (T j)) := by rw [cell_of_row _ _ _ _ _ _ HPr.out]; exact e2
                    clear e0 e1 e2
                    have hfj := hfc j hjn
                    have BA : Below wr.heap.size wr (wr.alloc (.cells #[.int .i64 (F j), .int .i64 (C j), .int .i64 (T j)] 97)) := (Below.refl _ _).alloc (Nat.le_refl _) _
                    have GA : Hid ((wr.alloc (.cells #[.int .i64 (F j), .int .i64 (C j), .int .i64 (T j)] 97)).heap[w2.heap.size]? = some (.cells #[.int .i64 o, .int .i64 d', .int .i64 a', .int .i64 b', .int .i64 y1] 71)) := by
                      show _ = _
                      rw [BA.block _ (by omega)]; exact HGr.out
                    have PA : Hid ((wr.alloc (.cells #[.int .i64 (F j), .int .i64 (C j), .int .i64 (T j)] 97)).heap[gP]? = some (.cells cs 97)) := by
                      show _ = _
                      rw [BA.block _ Lr]; exact HPr.out
                    have QA : Hid ((wr.alloc (.cells #[.int .i64 (F j), .int .i64 (C j), .int .i64 (T j)] 97)).heap[wr.heap.size]? = some (.cells #[.int .i64 (F j), .int .i64 (C j), .int .i64 (T j)] 97)) := heap_alloc_last _ _
                    have HBA : Hid (Below w2.heap.size w3 (wr.alloc (.cells #[.int .i64 (F j), .int .i64 (C j), .int .i64 (T j)] 97))) := HBr.out.trans (BA.mono (by omega))
                    have HI : Hid (y1 = wrap64 (y1 + W / (2 : Int) ^ T j % (2 : Int) ^ 0 * (2 : Int) ^ F j)) := by
                      show _ = _
                      have e := nsum_wrap W F C T j
                      rw [← HY1.out] at e
                      simp [Int.emod_one, e]
                    clear BA
                    go_wp2_with fail
                    generalize wr.heap.size = gQ at *
                    go_loopw [74] (fun i wv => ∃ (q : Nat) (y : Int), q ≤ C j ∧ i = .int .i64 q ∧ Hid (y = wrap64 (y1 + W / (2 : Int) ^ T j % (2 : Int) ^ q * (2 : Int) ^ F j)) ∧ Hid (wv.heap[w2.heap.size]? = some (.cells #[.int .i64 o, .int .i64 d', .int .i64 a', .int .i64 b', .int .i64 y] 71)) ∧ Hid (wv.heap[gP]? = some (.cells cs 97)) ∧ Hid (wv.heap[gQ]? = some (.cells #[.int .i64 (F j), .int .i64 (C j), .int .i64 (T j)] 97)) ∧ Hid (Below w2.heap.size w3 wv) ∧ gQ < wv.heap.size) (fun i _ => C j - (intOf i).toNat)
                    case atStart => exact ⟨0, _, by omega, rfl, HI, GA.out, PA.out, QA.out, HBA.out, (Array.getElem?_eq_some_iff.mp QA.out).1⟩
                    case round =>
                      obtain ⟨q, y2, hq, rfl, HY2, HGv, HPv, HQv, HBv, Lv⟩ := hrel
                      clear u0 u1 u2 GA PA QA HBA HI
                      by_cases hqc : q < C j
                      · have c4 : wr.cell? ⟨w2.heap.size, 4, none⟩ = some (.int .i64 y2) := by rw [cell_of_row _ _ _ _ _ _ HGv.out]; rfl
                        have f4 := frozen_of_row _ _ 4 _ _ HGv.out
                        have t0 : wr.cell? ⟨gQ, 0, none⟩ = some (.int .i64 (F j)) := by rw [cell_of_row _ _ _ _ _ _ HQv.out]; rfl
                        have t2 : wr.cell? ⟨gQ, 2, none⟩ = some (.int .i64 (T j)) := by rw [cell_of_row _ _ _ _ _ _ HQv.out]; rfl
                        have HV : Hid (wrap64 (y2 + wrap64 (wrap64 (bits .and .u32 (W / (2 : Int) ^ (T j + q)) 1) * (2 : Int) ^ (F j + q))) = wrap64 (y1 + W / (2 : Int) ^ T j % (2 : Int) ^ (q + 1) * (2 : Int) ^ F j)) := by
                          show _ = _
                          rw [HY2.out]; exact dstep W y1 _ _ _ hW0 hW1
                        go_wp2_with fail
                        go_region
                        go_wp2_with fail
                        refine ⟨⟨q + 1, _, by omega, by simp, HV, ?_, ?_, ?_, (HBv.out.setCell (Nat.le_refl _) _).drew, by simp; omega⟩, by simp [intOf]; omega⟩
                        · show _ = _
                          rw [heap_drew, heap_setCell_same _ _ _ _ _ _ HGv.out]; rfl
                        · show _ = _
                          rw [heap_drew, heap_setCell_other _ _ _ _ (by show gP ≠ w2.heap.size; omega)]; exact HPv.out
                        · show _ = _
                          rw [heap_drew, heap_setCell_other _ _ _ _ (by show gQ ≠ w2.heap.size; omega)]; exact HQv.out
                      · have HV : Hid (y2 = nsum W F C T (j + 1)) := by
                          show _ = _
                          rw [HY2.out, HY1.out, show q = C j by omega]; rfl
                        go_wp2_with fail
                        exact ⟨⟨j + 1, _, by omega, by simp, HV, HGv.out, HPv.out, HBv.out, by omega⟩, by simp [intOf]; omega⟩
                  · obtain rfl : j = np := by omega
                    have HG5r : wr.heap[w1.heap.size]? = some (.cells #[Value.int .u8 kc, .int .u32 l, .int .u32 m, .int .u32 h, .string s] 79) := by
                      rw [HBr.out.block _ L1, ← HB4.out.block _ L1]; exact HG54.out
                    have q6 : wr.cell? ⟨w1.heap.size, 0, none⟩ = some (.int .u8 kc) := by rw [cell_of_row _ _ _ _ _ _ HG5r]; rfl
                    have c4 : wr.cell? ⟨w2.heap.size, 4, none⟩ = some (.int .i64 y1) := by rw [cell_of_row _ _ _ _ _ _ HGr.out]; rfl
                    have f4 := frozen_of_row _ _ 4 _ _ HGr.out
                    have HBE : Hid (Below (w.heap.size + 1) (w.alloc (.cells zero5 71)) wr) := HB3.out.trans (HBr.out.mono (by omega))
                    have HNy : Hid (n = sgD bt y1) := by
                      show _ = _
                      rw [HN0.out, HY1.out]
                    clear HG5r HG54 HG4 HP4 HB4 HPr HBr HN0 HY1
                    rcases hbt with hbt | ⟨hb1, hb2⟩
                    · subst hbt
                      have hn : n = y1 := by rw [HNy.out]; simp [sgD]
                      subst hn
                      clear HNy
                      have HGE : Hid (wr.heap[w2.heap.size]? = some (.cells #[.int .i64 o, .int .i64 d', .int .i64 a', .int .i64 b', .int .i64 n] 71)) := HGr.out
                      have RE : Hid (World.rangeAt (wr) w2.heap.size 0 [.int .i64 o, .int .i64 d', .int .i64 a', .int .i64 b', .int .i64 n]) := range_of_row HGE.out
                      have LE : w2.heap.size < (wr).heap.size := (Array.getElem?_eq_some_iff.mp HGE.out).1
                      have LZ : w.heap.size + 1 ≤ w2.heap.size := by omega
                      cases hR : Rt o d' a' b' n with
                      | false =>
                        have HX : Hid (Hid (∀ j, 1 ≤ j → j < o + 1 → ¬ hit j)) := HNx.out fun hj => by
                          have e := (HHo.out hj).2.1
                          rw [hR] at e
                          exact absurd e (by simp)
                        have hE := fun w => encdoc_no o d' a' b' n w hR
                        clear hR HNx HHo HYo'
                        go_wp2_with (go_at_call 49; refine (hS _).mono ?_; rintro e wr ⟨rfl, rfl⟩)
                        go_quiet (fail)
                        go_wp2_with (first
                          | (refine wpList_load_w rfl 71 _ rfl w2.heap.size 0 rfl [.int .i64 o, .int .i64 d', .int .i64 a', .int .i64 b', .int .i64 n] _ (by first | exact RE.out | exact R5.out) Tryd.underlying71 rfl (by kernel_rfl) ?_)
                          | (go_at_call 50; refine (hE _).mono ?_; rintro e w5 ⟨rfl, hb5⟩
                             have R5 : Hid (w5.rangeAt w2.heap.size 0 [.int .i64 o, .int .i64 d', .int .i64 a', .int .i64 b', .int .i64 n]) := rangeAt_below (w := wr.drewN _) RE.out hb5 LE
                             have B5 : Hid (Below (w.heap.size + 1) (w.alloc (.cells zero5 71)) w5) := (below_drewN HBE.out _).trans (hb5.mono (by simp; omega))
                             have H05 : Hid (w5.heap[w.heap.size]? = some (.cells zero5 71)) := by
                               show _ = _
                               rw [B5.out.block _ (by omega)]; exact heap_alloc_last w _
                             clear hb5)
                          | (refine wpList_store_row rfl 71 _ _ rfl w.heap.size 71 _ _ rfl rfl H05.out (by kernel_rfl) rfl (one5 _ _ _ _ _) ?_))
                        exact ⟨⟨o + 1, by omega, by omega, rfl, by simp, HX.out, B5.out⟩, by simp [intOf]; omega⟩
                      | true =>
                        have hE := fun w => encdoc_ok o d' a' b' n w hR
                        cases hWd : Wd o d' a' b' n == W with
                        | false =>
                          have HX : Hid (Hid (∀ j, 1 ≤ j → j < o + 1 → ¬ hit j)) := HNx.out fun hj => by
                            have e := (HHo.out hj).2.2
                            rw [e] at hWd
                            exact absurd hWd (by simp)
                          clear hR HNx HHo HYo'
                          go_wp2_with (go_at_call 49; refine (hS _).mono ?_; rintro e wr ⟨rfl, rfl⟩)
                          go_quiet (fail)
                          go_wp2_with (first
                            | (refine wpList_load_w rfl 71 _ rfl w2.heap.size 0 rfl [.int .i64 o, .int .i64 d', .int .i64 a', .int .i64 b', .int .i64 n] _ (by first | exact RE.out | exact R5.out) Tryd.underlying71 rfl (by kernel_rfl) ?_)
                            | (go_at_call 50; refine (hE _).mono ?_; rintro e w5 ⟨rfl, hb5⟩
                               have R5 : Hid (w5.rangeAt w2.heap.size 0 [.int .i64 o, .int .i64 d', .int .i64 a', .int .i64 b', .int .i64 n]) := rangeAt_below (w := wr.drewN _) RE.out hb5 LE
                               have B5 : Hid (Below (w.heap.size + 1) (w.alloc (.cells zero5 71)) w5) := (below_drewN HBE.out _).trans (hb5.mono (by simp; omega))
                               have H05 : Hid (w5.heap[w.heap.size]? = some (.cells zero5 71)) := by
                                 show _ = _
                                 rw [B5.out.block _ (by omega)]; exact heap_alloc_last w _
                               clear hb5)
                            | (refine wpList_store_row rfl 71 _ _ rfl w.heap.size 71 _ _ rfl rfl H05.out (by kernel_rfl) rfl (one5 _ _ _ _ _) ?_))
                          exact ⟨⟨o + 1, by omega, by omega, rfl, by simp, HX.out, B5.out⟩, by simp [intOf]; omega⟩
                        | true =>
                          have HX : Hid (R = _) := HYo'.out hR (by simpa using hWd)
                          clear hR HNx HHo HYo'
                          go_wp2_with (go_at_call 49; refine (hS _).mono ?_; rintro e wr ⟨rfl, rfl⟩)
                          go_quiet (fail)
                          go_wp2_with (first
                            | (refine wpList_load_w rfl 71 _ rfl w2.heap.size 0 rfl [.int .i64 o, .int .i64 d', .int .i64 a', .int .i64 b', .int .i64 n] _ (by first | exact RE.out | exact R5.out) Tryd.underlying71 rfl (by kernel_rfl) ?_)
                            | (go_at_call 50; refine (hE _).mono ?_; rintro e w5 ⟨rfl, hb5⟩
                               have R5 : Hid (w5.rangeAt w2.heap.size 0 [.int .i64 o, .int .i64 d', .int .i64 a', .int .i64 b', .int .i64 n]) := rangeAt_below (w := wr.drewN _) RE.out hb5 LE
                               have B5 : Hid (Below (w.heap.size + 1) (w.alloc (.cells zero5 71)) w5) := (below_drewN HBE.out _).trans (hb5.mono (by simp; omega))
                               have H05 : Hid (w5.heap[w.heap.size]? = some (.cells zero5 71)) := by
                                 show _ = _
                                 rw [B5.out.block _ (by omega)]; exact heap_alloc_last w _
                               clear hb5)
                            | (refine wpList_store_row rfl 71 _ _ rfl w.heap.size 71 _ _ rfl rfl H05.out (by kernel_rfl) rfl (one5 _ _ _ _ _) ?_))
                          rw [HX.out]
                          exact bodyPost_ret (res11 _ _ w.heap.size _ _ _ _ _ rfl (setRow_heap w5 _ _ _ _ _ H05.out)) rfl ⟨rfl, below_setRow (((Below.refl _ _).alloc (Nat.le_refl _) _).trans (B5.out.mono (by omega))) (Nat.le_refl _) _⟩
                    · have hb0 : 0 < bt := by omega
                      have HNy' : Hid (n = if decide (wrap64 ((2 : Int) ^ (bt.toNat - 1)) ≤ y1) = true then wrap64 (y1 - wrap64 ((2 : Int) ^ bt.toNat)) else y1) := by
                        show _ = _
                        rw [HNy.out, wrap_pow _ (by omega), wrap_pow _ (by omega)]
                        have e : (bt - 1).toNat = bt.toNat - 1 := by omega
                        simp [sgD, hb0, e]
                      generalize hph : wrap64 ((2 : Int) ^ (bt.toNat - 1)) = ph at *
                      generalize hpw : wrap64 ((2 : Int) ^ bt.toNat) = pw at *
                      clear HNy
                      cases hge : decide (ph ≤ y1) with
                      | false =>
                        have hn : n = y1 := by rw [HNy'.out, hge]; simp
                        subst hn
                        clear HNy'
                        have HGE : Hid (wr.heap[w2.heap.size]? = some (.cells #[.int .i64 o, .int .i64 d', .int .i64 a', .int .i64 b', .int .i64 n] 71)) := HGr.out
                        have RE : Hid (World.rangeAt (wr) w2.heap.size 0 [.int .i64 o, .int .i64 d', .int .i64 a', .int .i64 b', .int .i64 n]) := range_of_row HGE.out
                        have LE : w2.heap.size < (wr).heap.size := (Array.getElem?_eq_some_iff.mp HGE.out).1
                        have LZ : w.heap.size + 1 ≤ w2.heap.size := by omega
                        cases hR : Rt o d' a' b' n with
                        | false =>
                          have HX : Hid (Hid (∀ j, 1 ≤ j → j < o + 1 → ¬ hit j)) := HNx.out fun hj => by
                            have e := (HHo.out hj).2.1
                            rw [hR] at e
                            exact absurd e (by simp)
                          have hE := fun w => encdoc_no o d' a' b' n w hR
                          clear hR HNx HHo HYo'
                          go_wp2_with (go_at_call 49; refine (hS _).mono ?_; rintro e wr ⟨rfl, rfl⟩)
                          go_quiet (fail)
                          go_wp2_with (first
                            | (refine wpList_load_w rfl 71 _ rfl w2.heap.size 0 rfl [.int .i64 o, .int .i64 d', .int .i64 a', .int .i64 b', .int .i64 n] _ (by first | exact RE.out | exact R5.out) Tryd.underlying71 rfl (by kernel_rfl) ?_)
                            | (go_at_call 50; refine (hE _).mono ?_; rintro e w5 ⟨rfl, hb5⟩
                               have R5 : Hid (w5.rangeAt w2.heap.size 0 [.int .i64 o, .int .i64 d', .int .i64 a', .int .i64 b', .int .i64 n]) := rangeAt_below (w := wr.drewN _) RE.out hb5 LE
                               have B5 : Hid (Below (w.heap.size + 1) (w.alloc (.cells zero5 71)) w5) := (below_drewN HBE.out _).trans (hb5.mono (by simp; omega))
                               have H05 : Hid (w5.heap[w.heap.size]? = some (.cells zero5 71)) := by
                                 show _ = _
                                 rw [B5.out.block _ (by omega)]; exact heap_alloc_last w _
                               clear hb5)
                            | (refine wpList_store_row rfl 71 _ _ rfl w.heap.size 71 _ _ rfl rfl H05.out (by kernel_rfl) rfl (one5 _ _ _ _ _) ?_))
                          exact ⟨⟨o + 1, by omega, by omega, rfl, by simp, HX.out, B5.out⟩, by simp [intOf]; omega⟩
                        | true =>
                          have hE := fun w => encdoc_ok o d' a' b' n w hR
                          cases hWd : Wd o d' a' b' n == W with
                          | false =>
                            have HX : Hid (Hid (∀ j, 1 ≤ j → j < o + 1 → ¬ hit j)) := HNx.out fun hj => by
                              have e := (HHo.out hj).2.2
                              rw [e] at hWd
                              exact absurd hWd (by simp)
                            clear hR HNx HHo HYo'
                            go_wp2_with (go_at_call 49; refine (hS _).mono ?_; rintro e wr ⟨rfl, rfl⟩)
                            go_quiet (fail)
                            go_wp2_with (first
                              | (refine wpList_load_w rfl 71 _ rfl w2.heap.size 0 rfl [.int .i64 o, .int .i64 d', .int .i64 a', .int .i64 b', .int .i64 n] _ (by first | exact RE.out | exact R5.out) Tryd.underlying71 rfl (by kernel_rfl) ?_)
                              | (go_at_call 50; refine (hE _).mono ?_; rintro e w5 ⟨rfl, hb5⟩
                                 have R5 : Hid (w5.rangeAt w2.heap.size 0 [.int .i64 o, .int .i64 d', .int .i64 a', .int .i64 b', .int .i64 n]) := rangeAt_below (w := wr.drewN _) RE.out hb5 LE
                                 have B5 : Hid (Below (w.heap.size + 1) (w.alloc (.cells zero5 71)) w5) := (below_drewN HBE.out _).trans (hb5.mono (by simp; omega))
                                 have H05 : Hid (w5.heap[w.heap.size]? = some (.cells zero5 71)) := by
                                   show _ = _
                                   rw [B5.out.block _ (by omega)]; exact heap_alloc_last w _
                                 clear hb5)
                              | (refine wpList_store_row rfl 71 _ _ rfl w.heap.size 71 _ _ rfl rfl H05.out (by kernel_rfl) rfl (one5 _ _ _ _ _) ?_))
                            exact ⟨⟨o + 1, by omega, by omega, rfl, by simp, HX.out, B5.out⟩, by simp [intOf]; omega⟩
                          | true =>
                            have HX : Hid (R = _) := HYo'.out hR (by simpa using hWd)
                            clear hR HNx HHo HYo'
                            go_wp2_with (go_at_call 49; refine (hS _).mono ?_; rintro e wr ⟨rfl, rfl⟩)
                            go_quiet (fail)
                            go_wp2_with (first
                              | (refine wpList_load_w rfl 71 _ rfl w2.heap.size 0 rfl [.int .i64 o, .int .i64 d', .int .i64 a', .int .i64 b', .int .i64 n] _ (by first | exact RE.out | exact R5.out) Tryd.underlying71 rfl (by kernel_rfl) ?_)
                              | (go_at_call 50; refine (hE _).mono ?_; rintro e w5 ⟨rfl, hb5⟩
                                 have R5 : Hid (w5.rangeAt w2.heap.size 0 [.int .i64 o, .int .i64 d', .int .i64 a', .int .i64 b', .int .i64 n]) := rangeAt_below (w := wr.drewN _) RE.out hb5 LE
                                 have B5 : Hid (Below (w.heap.size + 1) (w.alloc (.cells zero5 71)) w5) := (below_drewN HBE.out _).trans (hb5.mono (by simp; omega))
                                 have H05 : Hid (w5.heap[w.heap.size]? = some (.cells zero5 71)) := by
                                   show _ = _
                                   rw [B5.out.block _ (by omega)]; exact heap_alloc_last w _
                                 clear hb5)
                              | (refine wpList_store_row rfl 71 _ _ rfl w.heap.size 71 _ _ rfl rfl H05.out (by kernel_rfl) rfl (one5 _ _ _ _ _) ?_))
                            rw [HX.out]
                            exact bodyPost_ret (res11 _ _ w.heap.size _ _ _ _ _ rfl (setRow_heap w5 _ _ _ _ _ H05.out)) rfl ⟨rfl, below_setRow (((Below.refl _ _).alloc (Nat.le_refl _) _).trans (B5.out.mono (by omega))) (Nat.le_refl _) _⟩
                      | true =>
                        have hn : n = (wrap64 (y1 - pw)) := by rw [HNy'.out, hge]; simp
                        subst hn
                        clear HNy'
                        have LZ : w.heap.size + 1 ≤ w2.heap.size := by omega
                        have RE : Hid (∀ q, World.rangeAt ((wr.drewN q).setCell ⟨w2.heap.size, 4, none⟩ (.int .i64 (wrap64 (y1 - pw)))) w2.heap.size 0 [.int .i64 o, .int .i64 d', .int .i64 a', .int .i64 b', .int .i64 (wrap64 (y1 - pw))]) := fun q => range_of_row (t := 71) (by rw [heap_setCell_same _ _ _ _ _ _ (show (wr.drewN q).heap[w2.heap.size]? = _ from HGr.out)]; rfl)
                        have LE : Hid (∀ q, w2.heap.size < ((wr.drewN q).setCell ⟨w2.heap.size, 4, none⟩ (.int .i64 (wrap64 (y1 - pw)))).heap.size) := fun q => by
                          have := (Array.getElem?_eq_some_iff.mp HGr.out).1
                          simpa using this
                        have HBS : Hid (∀ q, Below (w.heap.size + 1) (w.alloc (.cells zero5 71)) ((wr.drewN q).setCell ⟨w2.heap.size, 4, none⟩ (.int .i64 (wrap64 (y1 - pw))))) := fun q => (below_drewN HBE.out _).setCell (by show _ ≤ w2.heap.size; omega) _
                        cases hR : Rt o d' a' b' (wrap64 (y1 - pw)) with
                        | false =>
                          have HX : Hid (Hid (∀ j, 1 ≤ j → j < o + 1 → ¬ hit j)) := HNx.out fun hj => by
                            have e := (HHo.out hj).2.1
                            rw [hR] at e
                            exact absurd e (by simp)
                          have hE := fun w => encdoc_no o d' a' b' (wrap64 (y1 - pw)) w hR
                          clear hR HNx HHo HYo'
                          go_wp2_with (go_at_call 49; refine (hS _).mono ?_; rintro e wr ⟨rfl, rfl⟩)
                          go_quiet (fail)
                          go_wp2_with fail
                          go_region
                          have R1 : Hid (World.rangeAt ((wr.drewN (nq + 1)).setCell ⟨w2.heap.size, 4, none⟩ (.int .i64 (wrap64 (y1 - pw)))) w2.heap.size 0 [.int .i64 o, .int .i64 d', .int .i64 a', .int .i64 b', .int .i64 (wrap64 (y1 - pw))]) := RE.out (nq + 1)
                          have HB1 : Hid (Below (w.heap.size + 1) (w.alloc (.cells zero5 71)) ((wr.drewN (nq + 1)).setCell ⟨w2.heap.size, 4, none⟩ (.int .i64 (wrap64 (y1 - pw))))) := HBS.out (nq + 1)
                          have L1E : w2.heap.size < ((wr.drewN (nq + 1)).setCell ⟨w2.heap.size, 4, none⟩ (.int .i64 (wrap64 (y1 - pw)))).heap.size := LE.out (nq + 1)
                          clear RE LE HBS
                          generalize ((wr.drewN (nq + 1)).setCell ⟨w2.heap.size, 4, none⟩ (.int .i64 (wrap64 (y1 - pw)))) = wE at *
                          go_wp2_with (first
                            | (refine wpList_load_w rfl 71 _ rfl w2.heap.size 0 rfl [.int .i64 o, .int .i64 d', .int .i64 a', .int .i64 b', .int .i64 (wrap64 (y1 - pw))] _ (by first | exact R1.out | exact R5.out) Tryd.underlying71 rfl (by kernel_rfl) ?_)
                            | (go_at_call 50; refine (hE _).mono ?_; rintro e w5 ⟨rfl, hb5⟩
                               have R5 : Hid (w5.rangeAt w2.heap.size 0 [.int .i64 o, .int .i64 d', .int .i64 a', .int .i64 b', .int .i64 (wrap64 (y1 - pw))]) := rangeAt_below R1.out hb5 L1E
                               have B5 : Hid (Below (w.heap.size + 1) (w.alloc (.cells zero5 71)) w5) := HB1.out.trans (hb5.mono (by omega))
                               have H05 : Hid (w5.heap[w.heap.size]? = some (.cells zero5 71)) := by
                                 show _ = _
                                 rw [B5.out.block _ (by omega)]; exact heap_alloc_last w _
                               clear hb5)
                            | (refine wpList_store_row rfl 71 _ _ rfl w.heap.size 71 _ _ rfl rfl H05.out (by kernel_rfl) rfl (one5 _ _ _ _ _) ?_))
                          exact ⟨⟨o + 1, by omega, by omega, rfl, by simp, HX.out, B5.out⟩, by simp [intOf]; omega⟩
                        | true =>
                          have hE := fun w => encdoc_ok o d' a' b' (wrap64 (y1 - pw)) w hR
                          cases hWd : Wd o d' a' b' (wrap64 (y1 - pw)) == W with
                          | false =>
                            have HX : Hid (Hid (∀ j, 1 ≤ j → j < o + 1 → ¬ hit j)) := HNx.out fun hj => by
                              have e := (HHo.out hj).2.2
                              rw [e] at hWd
                              exact absurd hWd (by simp)
                            clear hR HNx HHo HYo'
                            go_wp2_with (go_at_call 49; refine (hS _).mono ?_; rintro e wr ⟨rfl, rfl⟩)
                            go_quiet (fail)
                            go_wp2_with fail
                            go_region
                            have R1 : Hid (World.rangeAt ((wr.drewN (nq + 1)).setCell ⟨w2.heap.size, 4, none⟩ (.int .i64 (wrap64 (y1 - pw)))) w2.heap.size 0 [.int .i64 o, .int .i64 d', .int .i64 a', .int .i64 b', .int .i64 (wrap64 (y1 - pw))]) := RE.out (nq + 1)
                            have HB1 : Hid (Below (w.heap.size + 1) (w.alloc (.cells zero5 71)) ((wr.drewN (nq + 1)).setCell ⟨w2.heap.size, 4, none⟩ (.int .i64 (wrap64 (y1 - pw))))) := HBS.out (nq + 1)
                            have L1E : w2.heap.size < ((wr.drewN (nq + 1)).setCell ⟨w2.heap.size, 4, none⟩ (.int .i64 (wrap64 (y1 - pw)))).heap.size := LE.out (nq + 1)
                            clear RE LE HBS
                            generalize ((wr.drewN (nq + 1)).setCell ⟨w2.heap.size, 4, none⟩ (.int .i64 (wrap64 (y1 - pw)))) = wE at *
                            go_wp2_with (first
                              | (refine wpList_load_w rfl 71 _ rfl w2.heap.size 0 rfl [.int .i64 o, .int .i64 d', .int .i64 a', .int .i64 b', .int .i64 (wrap64 (y1 - pw))] _ (by first | exact R1.out | exact R5.out) Tryd.underlying71 rfl (by kernel_rfl) ?_)
                              | (go_at_call 50; refine (hE _).mono ?_; rintro e w5 ⟨rfl, hb5⟩
                                 have R5 : Hid (w5.rangeAt w2.heap.size 0 [.int .i64 o, .int .i64 d', .int .i64 a', .int .i64 b', .int .i64 (wrap64 (y1 - pw))]) := rangeAt_below R1.out hb5 L1E
                                 have B5 : Hid (Below (w.heap.size + 1) (w.alloc (.cells zero5 71)) w5) := HB1.out.trans (hb5.mono (by omega))
                                 have H05 : Hid (w5.heap[w.heap.size]? = some (.cells zero5 71)) := by
                                   show _ = _
                                   rw [B5.out.block _ (by omega)]; exact heap_alloc_last w _
                                 clear hb5)
                              | (refine wpList_store_row rfl 71 _ _ rfl w.heap.size 71 _ _ rfl rfl H05.out (by kernel_rfl) rfl (one5 _ _ _ _ _) ?_))
                            exact ⟨⟨o + 1, by omega, by omega, rfl, by simp, HX.out, B5.out⟩, by simp [intOf]; omega⟩
                          | true =>
                            have HX : Hid (R = _) := HYo'.out hR (by simpa using hWd)
                            clear hR HNx HHo HYo'
                            go_wp2_with (go_at_call 49; refine (hS _).mono ?_; rintro e wr ⟨rfl, rfl⟩)
                            go_quiet (fail)
                            go_wp2_with fail
                            go_region
                            have R1 : Hid (World.rangeAt ((wr.drewN (nq + 1)).setCell ⟨w2.heap.size, 4, none⟩ (.int .i64 (wrap64 (y1 - pw)))) w2.heap.size 0 [.int .i64 o, .int .i64 d', .int .i64 a', .int .i64 b', .int .i64 (wrap64 (y1 - pw))]) := RE.out (nq + 1)
                            have HB1 : Hid (Below (w.heap.size + 1) (w.alloc (.cells zero5 71)) ((wr.drewN (nq + 1)).setCell ⟨w2.heap.size, 4, none⟩ (.int .i64 (wrap64 (y1 - pw))))) := HBS.out (nq + 1)
                            have L1E : w2.heap.size < ((wr.drewN (nq + 1)).setCell ⟨w2.heap.size, 4, none⟩ (.int .i64 (wrap64 (y1 - pw)))).heap.size := LE.out (nq + 1)
                            clear RE LE HBS
                            generalize ((wr.drewN (nq + 1)).setCell ⟨w2.heap.size, 4, none⟩ (.int .i64 (wrap64 (y1 - pw)))) = wE at *
                            go_wp2_with (first
                              | (refine wpList_load_w rfl 71 _ rfl w2.heap.size 0 rfl [.int .i64 o, .int .i64 d', .int .i64 a', .int .i64 b', .int .i64 (wrap64 (y1 - pw))] _ (by first | exact R1.out | exact R5.out) Tryd.underlying71 rfl (by kernel_rfl) ?_)
                              | (go_at_call 50; refine (hE _).mono ?_; rintro e w5 ⟨rfl, hb5⟩
                                 have R5 : Hid (w5.rangeAt w2.heap.size 0 [.int .i64 o, .int .i64 d', .int .i64 a', .int .i64 b', .int .i64 (wrap64 (y1 - pw))]) := rangeAt_below R1.out hb5 L1E
                                 have B5 : Hid (Below (w.heap.size + 1) (w.alloc (.cells zero5 71)) w5) := HB1.out.trans (hb5.mono (by omega))
                                 have H05 : Hid (w5.heap[w.heap.size]? = some (.cells zero5 71)) := by
                                   show _ = _
                                   rw [B5.out.block _ (by omega)]; exact heap_alloc_last w _
                                 clear hb5)
                              | (refine wpList_store_row rfl 71 _ _ rfl w.heap.size 71 _ _ rfl rfl H05.out (by kernel_rfl) rfl (one5 _ _ _ _ _) ?_))
                            rw [HX.out]
                            exact bodyPost_ret (res11 _ _ w.heap.size _ _ _ _ _ rfl (setRow_heap w5 _ _ _ _ _ H05.out)) rfl ⟨rfl, below_setRow (((Below.refl _ _).alloc (Nat.le_refl _) _).trans (B5.out.mono (by omega))) (Nat.le_refl _) _⟩
        · have hl1 : (W % 128 != l) = true := by simp [hlow]
          have HX : Hid (Hid (∀ j, 1 ≤ j → j < o + 1 → ¬ hit j)) := HNx.out fun hj => hlow (HHo.out hj).1
          clear hlow
          go_wp2_with (
            refine wpList_store_row rfl 79 _ _ rfl _ 79 _ _ rfl rfl (heap_alloc_last _ _) (by kernel_rfl) rfl (one45 _ _ _ _ _) ?_
            rw [← HW2.out]
            clear HW2)
          exact ⟨⟨o + 1, by omega, by omega, rfl, by simp, HX.out, HB2.out⟩, by simp [intOf]; omega⟩
      · have HN' : Hid (∀ j, 1 ≤ j → j < o + 1 → ¬ hit j) := fun j h1 h2 hj => by
          by_cases e : j = o
          · have := (HH.out j hj).1
            omega
          · exact HJ.out j h1 (by omega) hj
        have hF := formOf_out (o : Int) (.inr (by omega))
        go_wp2_with (go_at_call 33; fail)
        refine (hF _).mono ?_
        rintro e w1 ⟨rfl, hb⟩
        have HB1 : Hid (Below wr.heap.size wr w1) := hb
        have hsz := hb.size
        clear hb
        go_wp2_with (refine wpList_store_row rfl 79 _ _ rfl _ 79 _ _ rfl rfl (heap_alloc_last _ _) (by kernel_rfl) rfl (one45 _ _ _ _ _) ?_)
        refine ⟨⟨o + 1, by omega, by omega, rfl, by simp, HN', ?_⟩, by simp [intOf]; omega⟩
        exact below_setRow ((HB.out.trans (HB1.out.mono (by omega))).alloc (by omega) _) (by omega) _
    · have hR : R = .tuple #[.agg zero5, .int .i64 3] := HN.out fun j h1 hj => by
        have := (HH.out j hj).1
        exact HJ.out j h1 (by omega) hj
      have HX : Hid (R = _) := hR
      have HW : Hid (Below w.heap.size w wr) := ((Below.refl _ _).alloc (Nat.le_refl _) _).trans (HB.out.mono (by omega))
      clear hR
      have hoe : o = 40 := by omega
      subst hoe
      go_wp2_with (refine wpList_store_row rfl 71 _ _ rfl w.heap.size 71 _ _ rfl rfl HROW.out (by kernel_rfl) rfl (one5 _ _ _ _ _) ?_)
      rw [HX.out]
      exact bodyPost_ret (res11 _ _ w.heap.size _ _ _ _ _ rfl (setRow_heap wr _ _ _ _ _ HROW.out)) rfl ⟨rfl, below_setRow HW.out (Nat.le_refl _) _⟩
end Go.Proofs.YtaodcpdkobhmfaaDoor
