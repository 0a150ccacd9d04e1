/- ReadInst, letter by letter. -/
import Derived.Test.YtjjjdplgdlaihaaGreatDoorD9A
namespace Go.Proofs.YtjjjdplgdlaihaaGreatDoor
set_option linter.unusedVariables false
set_option linter.unusedSimpArgs false
open Go Go.RowKit
set_option maxRecDepth 1000000 in
set_option maxHeartbeats 8000000 in
theorem rd_t {s : ByteArray} {w wo w2 wr w4 : World} {kk o k : Nat} {rs nm fm pp tb : ByteArray} {pl : List ByteArray} {ks : By} {d a b n : Int} {ob : Bool} {KC : Act → World → Prop} {u9 u10 u35 u36 u37 u38 u39 u40 u41 u42 u43 u44 u45 u46 u47 u48 u49 u50 u13 u14 u15 u16 u17 u71 u72 u73 u74 u75 u76 u77 u78 u79 u80 u81 u82 u83 u84 u85 u86 u87 u88 u89 u90 u91 u92 u93 u94 u95 u96 u97 u98 u99 u100 u101 u102 u103 u104 u105 u106 u107 u108 u109 u110 u111 u112 u113 u114 u115 u116 u117 u118 u119 u120 u121 u122 u123 u124 u125 u126 u127 u128 u129 u130 u131 u132 u133 u134 u135 u136 u137 u138 u139 u140 u141 u142 u143 u144 u145 u146 u147 u148 u149 u150 u151 u152 u153 u154 u155 u156 u157 u158 u159 u160 u161 u162 u163 u164 u165 u166 u167 u168 u169 u170 u171 u172 u173 u174 u175 u176 u177 u178 u179 u180 u181 u182 u183 u184 u185 u186 u187 u188 u189 u190 u191 u192 u193 u194 u195 : Value}
    (hkl : k < ks.length) (hl : ks[k] = 58) (hi : k < fm.size) (hps : pp.size ≤ 1200)
    (HSt : Hid (StR (foldT (ks.take k) ((pl.map (·.data.toList)).take k) ⟨o, 0, 0, 0, 0, []⟩) o d a b n tb.data.toList ob))
    (HI : Hid (wr.heap[w2.heap.size]? = some (.stringIter fm k)))
    (HT : Hid (foldT (ks.take (k + 1)) ((pl.map (·.data.toList)).take (k + 1)) ⟨o, 0, 0, 0, 0, []⟩ = (foldT (ks.take k) ((pl.map (·.data.toList)).take k) ⟨o, 0, 0, 0, 0, []⟩).bind (takeV ks[k] pp.data.toList)))
    (HI4 : Hid (w4.heap[w2.heap.size]? = some (.stringIter fm (k + 1)))) (HX4 : Hid (w4.heap[w.heap.size]? = some (.cells #[.int .i64 (o : Int), .int .i64 d, .int .i64 a, .int .i64 b, .int .i64 n] 39))) (HP4 : Hid (w4.heap[wo.heap.size]? = some (.cells (pl.map Value.string).toArray 9))) (HB4 : Hid (Below w.heap.size w w4))
    (hnx : ∀ (ty : TypeId), (Instr.next (.pointer (some ⟨w2.heap.size, 0, none⟩)) true ty).run Tryz.prog wr = .ok (.tuple #[.bool true, .int .i64 (k : Int), .int .i32 ((shB ks[k]).toNat : Int)]) w4)
    (cP : w4.cell? ⟨wo.heap.size, k, none⟩ = some (.string pp)) (hlt4 : wo.heap.size < w4.heap.size)
    (HLoW : Hid (w.heap.size < wo.heap.size ∧ wo.heap.size < w2.heap.size)) (HEw : Hid (Env w4)) (HLen : Hid (List.length ks = pl.length))
    (HRV2 : Hid (readV s.data.toList = foldT ks (pl.map (·.data.toList)) ⟨o, 0, 0, 0, 0, []⟩)) :
    Code.wp Tryz.prog (loopAt Tryz.f22 1) (Exit.then (fun a' w' => WR s w wo w2 kk o rs nm fm pl ks u9 u10 u35 u36 u37 u38 u39 u40 u41 u42 u43 u44 u45 u46 u47 u48 u49 u50 a' w' ∧ fm.size - w'.iterPos w2.heap.size < fm.size - wr.iterPos w2.heap.size) (Exit.inBlock 2 (Exit.then KC (bodyPost Tryz.prog Tryz.f22 fun e w' => RdOut (readV s.data.toList) e ∧ Below w.heap.size w w'))))
      { tmps := #[Value.string s, undef, Value.pointer (some ⟨w.heap.size, 0, none⟩), Value.string tb, Value.bool ob, Value.string nm, Value.string rs, Value.int .i64 (kk : Int), Value.int .i64 40, u9, u10, Value.slice (some ⟨wo.heap.size, 0, none⟩) fm.size fm.size, Value.string fm, u13, u14, u15, u16, u17, Value.string s, Value.string s, Value.int .i64 (kk : Int), Value.int .i64 (kk : Int), Value.bool true, Value.string s, Value.int .i64 (kk : Int), Value.string nm, Value.string s, Value.int .i64 (kk : Int), Value.string (s.extract kk s.size), Value.string rs, Value.string rs, Value.bool false, undef, Value.int .i64 40, Value.bool false, u35, u36, u37, u38, u39, u40, u41, u42, u43, u44, u45, u46, u47, u48, u49, u50, Value.string rs, Value.bool true, Value.string rs, Value.slice (some ⟨wo.heap.size, 0, none⟩) fm.size fm.size, Value.pointer (some ⟨w.heap.size, 0, none⟩), Value.int .i64 (o : Int), Value.string fm, Value.pointer (some ⟨w.heap.size, 0, none⟩), Value.int .i64 (o : Int), Value.bool false, Value.bool false, Value.slice (some ⟨wo.heap.size, 0, none⟩) fm.size fm.size, Value.int .i64 (fm.size : Int), Value.string fm, Value.int .i64 (fm.size : Int), Value.bool false, Value.bool false, undef, Value.string fm, Value.pointer (some ⟨w2.heap.size, 0, none⟩), u71, u72, u73, u74, u75, u76, u77, u78, u79, u80, u81, u82, u83, u84, u85, u86, u87, u88, u89, u90, u91, u92, u93, u94, u95, u96, u97, u98, u99, u100, u101, u102, u103, u104, u105, u106, u107, u108, u109, u110, u111, u112, u113, u114, u115, u116, u117, u118, u119, u120, u121, u122, u123, u124, u125, u126, u127, u128, u129, u130, u131, u132, u133, u134, u135, u136, u137, u138, u139, u140, u141, u142, u143, u144, u145, u146, u147, u148, u149, u150, u151, u152, u153, u154, u155, u156, u157, u158, u159, u160, u161, u162, u163, u164, u165, u166, u167, u168, u169, u170, u171, u172, u173, u174, u175, u176, u177, u178, u179, u180, u181, u182, u183, u184, u185, u186, u187, u188, u189, u190, u191, u192, u193, u194, u195, undef, undef, undef], defers := [] } wr := by
  conv => arg 2; whnf
  unfold WR
  have HM4 : Hid (∀ w5, Below w4.heap.size w4 w5 → w5.heap[w2.heap.size]? = some (.stringIter fm (k + 1)) ∧ w5.heap[w.heap.size]? = some (.cells #[.int .i64 (o : Int), .int .i64 d, .int .i64 a, .int .i64 b, .int .i64 n] 39) ∧ w5.heap[wo.heap.size]? = some (.cells (pl.map Value.string).toArray 9) ∧ w5.cell? ⟨wo.heap.size, k, none⟩ = some (.string pp) ∧ Below w.heap.size w w5) := fun w5 hb => by
    have h1 : w2.heap.size < w4.heap.size := (Array.getElem?_eq_some_iff.1 HI4.out).1
    have h2 := HLoW.out
    refine ⟨by rw [hb.block _ h1]; exact HI4.out, by rw [hb.block _ (by omega)]; exact HX4.out, by rw [hb.block _ (by omega)]; exact HP4.out, ?_, HB4.out.trans (hb.mono (by omega))⟩
    have e := hb.cell (p := ⟨wo.heap.size, k, none⟩) (show wo.heap.size < _ by omega)
    rw [e]; exact cP
  have HKS : Hid (∀ (W : World) (i : Nat) (v : Value), (∀ m, m = w2.heap.size ∨ m = wo.heap.size → (W.setCell ⟨w.heap.size, i, none⟩ v).heap[m]? = W.heap[m]?) ∧ (∀ c, (W.setCell ⟨w.heap.size, i, none⟩ v).cell? ⟨wo.heap.size, c, none⟩ = W.cell? ⟨wo.heap.size, c, none⟩)) := fun W i v => by
    have h2 := HLoW.out
    refine ⟨fun m hm => heap_setCell_other _ _ _ _ (by show m ≠ w.heap.size; omega), fun c => ?_⟩
    exact World.cell?_setCell_other _ _ _ _ (by intro h; injection h with h1; omega)
  have c1 : w4.cell? ⟨w.heap.size, 1, none⟩ = some (.int .i64 d) := by rw [cell_of_row _ _ _ _ _ _ HX4.out]; rfl
  have c2 : w4.cell? ⟨w.heap.size, 2, none⟩ = some (.int .i64 a) := by rw [cell_of_row _ _ _ _ _ _ HX4.out]; rfl
  have c3 : w4.cell? ⟨w.heap.size, 3, none⟩ = some (.int .i64 b) := by rw [cell_of_row _ _ _ _ _ _ HX4.out]; rfl
  have c4 : w4.cell? ⟨w.heap.size, 4, none⟩ = some (.int .i64 n) := by rw [cell_of_row _ _ _ _ _ _ HX4.out]; rfl
  have f1 := row_free HX4.out 1
  have f2 := row_free HX4.out 2
  have f3 := row_free HX4.out 3
  have f4 := row_free HX4.out 4
  have e1 : ((shB ks[k]).toNat : Int) = 116 := by rw [hl]; rfl
  rw [e1] at hnx
  have HT2 : Hid (foldT (ks.take (k + 1)) ((pl.map (·.data.toList)).take (k + 1)) ⟨o, 0, 0, 0, 0, []⟩ = (foldT (ks.take k) ((pl.map (·.data.toList)).take k) ⟨o, 0, 0, 0, 0, []⟩).bind (takeV 58 pp.data.toList)) := by show _ = _; rw [HT.out, hl]
  clear e1 hl HT
  generalize foldT (ks.take k) ((pl.map (·.data.toList)).take k) ⟨o, 0, 0, 0, 0, []⟩ = F at *
  clear c1 f1 c2 f2 c3 f3 c4 f4
  cases hv : numV pp.data.toList with
  | some v =>
    have HWh : Hid (Calls Tryz.prog 55 #[.string pp] w4 fun e w' => e = .returned (.tuple #[.int .i64 v, .bool true]) ∧ Below w4.heap.size w4 w') := whole_yes pp v w4 HEw.out (by omega) hv
    have HV : Hid (numV pp.data.toList = some v) := hv
    clear hv
    cases ob with
    | true =>
      go_wp2_with (go_at_call 55; refine HWh.out.mono ?_; rintro e w5 ⟨rfl, hb⟩; obtain ⟨hI, hX, hP, hC, hB⟩ := HM4.out w5 hb; have HI5w : Hid (w5.heap[w2.heap.size]? = some (.stringIter fm (k + 1))) := hI; have HX5w : Hid (w5.heap[w.heap.size]? = some (.cells #[.int .i64 (o : Int), .int .i64 d, .int .i64 a, .int .i64 b, .int .i64 n] 39)) := hX; have HP5w : Hid (w5.heap[wo.heap.size]? = some (.cells (pl.map Value.string).toArray 9)) := hP; have HB5w : Hid (Below w.heap.size w w5) := hB; have hz4 : w5.cell? ⟨w.heap.size, 4, none⟩ = some (.int .i64 n) := (by rw [cell_of_row _ _ _ _ _ _ hX]; rfl); have hf4 := row_free hX 4; have hsc : ∀ v, (w5.setCell ⟨w.heap.size, 4, none⟩ v).cell? ⟨wo.heap.size, k, none⟩ = some (.string pp) := (fun v => ((HKS.out w5 4 v).2 k).trans hC); clear hI hX hP hb hB)
      have HI5 : (w5.setCell ⟨w.heap.size, 4, none⟩ (.int .i64 v)).heap[w2.heap.size]? = some (.stringIter fm (k + 1)) := by rw [(HKS.out w5 4 (.int .i64 v)).1 _ (.inl rfl)]; exact HI5w.out
      refine ⟨⟨k + 1, d, a, b, v, tb, true, by omega, rfl, rfl, ?_, HI5, heap_setCell_same _ _ _ _ _ _ HX5w.out, by rw [(HKS.out w5 4 (.int .i64 v)).1 _ (.inr rfl)]; exact HP5w.out, HB5w.out.setCell (p := ⟨w.heap.size, 4, none⟩) (Nat.le_refl _) _⟩, ?_⟩
      · show StR _ _ _ _ _ _ _ _
        rw [HT2.out]
        exact stR_t HV.out HSt.out
      · simp only [World.iterPos, HI5, HI.out]
        omega
    | false =>
      go_wp2_with (go_at_call 55; refine HWh.out.mono ?_; rintro e w5 ⟨rfl, hb⟩; obtain ⟨hI, hX, hP, hC, hB⟩ := HM4.out w5 hb; have HI5w : Hid (w5.heap[w2.heap.size]? = some (.stringIter fm (k + 1))) := hI; have HX5w : Hid (w5.heap[w.heap.size]? = some (.cells #[.int .i64 (o : Int), .int .i64 d, .int .i64 a, .int .i64 b, .int .i64 n] 39)) := hX; have HP5w : Hid (w5.heap[wo.heap.size]? = some (.cells (pl.map Value.string).toArray 9)) := hP; have HB5w : Hid (Below w.heap.size w w5) := hB; have hz4 : w5.cell? ⟨w.heap.size, 4, none⟩ = some (.int .i64 n) := (by rw [cell_of_row _ _ _ _ _ _ hX]; rfl); have hf4 := row_free hX 4; have hsc : ∀ v, (w5.setCell ⟨w.heap.size, 4, none⟩ v).cell? ⟨wo.heap.size, k, none⟩ = some (.string pp) := (fun v => ((HKS.out w5 4 v).2 k).trans hC); clear hI hX hP hb hB)
      have HI5 : (w5.setCell ⟨w.heap.size, 4, none⟩ (.int .i64 v)).heap[w2.heap.size]? = some (.stringIter fm (k + 1)) := by rw [(HKS.out w5 4 (.int .i64 v)).1 _ (.inl rfl)]; exact HI5w.out
      refine ⟨⟨k + 1, d, a, b, v, tb, false, by omega, rfl, rfl, ?_, HI5, heap_setCell_same _ _ _ _ _ _ HX5w.out, by rw [(HKS.out w5 4 (.int .i64 v)).1 _ (.inr rfl)]; exact HP5w.out, HB5w.out.setCell (p := ⟨w.heap.size, 4, none⟩) (Nat.le_refl _) _⟩, ?_⟩
      · show StR _ _ _ _ _ _ _ _
        rw [HT2.out]
        exact stR_t HV.out HSt.out
      · simp only [World.iterPos, HI5, HI.out]
        omega
  | none =>
    have HWh : Hid (Calls Tryz.prog 55 #[.string pp] w4 fun e w' => (∃ x : Int, e = .returned (.tuple #[.int .i64 x, .bool false])) ∧ Below w4.heap.size w4 w') := whole_no pp w4 HEw.out (by omega) hv
    have HV : Hid (numV pp.data.toList = none) := hv
    clear hv
    have HPn : Hid (∀ w', Calls Tryz.prog 10 #[.string pp] w' fun e w'' => e = .returned (.bool (nameV pp.data.toList)) ∧ w'' = w') := fun w' => place_doc pp w' (by omega)
    cases hn : nameV pp.data.toList with
    | true =>
      rw [hn] at HPn
      have HN : Hid (nameV pp.data.toList = true) := hn
      clear hn
      cases ob with
      | true =>
        go_wp2_with (first | (go_at_call 55; refine HWh.out.mono ?_; rintro e w5 ⟨⟨x, rfl⟩, hb⟩; obtain ⟨hI, hX, hP, hC, hB⟩ := HM4.out w5 hb; have HI5w : Hid (w5.heap[w2.heap.size]? = some (.stringIter fm (k + 1))) := hI; have HX5w : Hid (w5.heap[w.heap.size]? = some (.cells #[.int .i64 (o : Int), .int .i64 d, .int .i64 a, .int .i64 b, .int .i64 n] 39)) := hX; have HP5w : Hid (w5.heap[wo.heap.size]? = some (.cells (pl.map Value.string).toArray 9)) := hP; have HB5w : Hid (Below w.heap.size w w5) := hB; have hz4 : w5.cell? ⟨w.heap.size, 4, none⟩ = some (.int .i64 n) := (by rw [cell_of_row _ _ _ _ _ _ hX]; rfl); have hf4 := row_free hX 4; have hsc : ∀ v, (w5.setCell ⟨w.heap.size, 4, none⟩ v).cell? ⟨wo.heap.size, k, none⟩ = some (.string pp) := (fun v => ((HKS.out w5 4 v).2 k).trans hC); clear hI hX hP hb hB) | (go_at_call 10; refine (HPn.out _).mono ?_; rintro e w6 ⟨rfl, rfl⟩))
        have HI5 : (w5.setCell ⟨w.heap.size, 4, none⟩ (.int .i64 x)).heap[w2.heap.size]? = some (.stringIter fm (k + 1)) := by rw [(HKS.out w5 4 (.int .i64 x)).1 _ (.inl rfl)]; exact HI5w.out
        refine ⟨⟨k + 1, d, a, b, x, pp, true, by omega, rfl, rfl, ?_, HI5, heap_setCell_same _ _ _ _ _ _ HX5w.out, by rw [(HKS.out w5 4 (.int .i64 x)).1 _ (.inr rfl)]; exact HP5w.out, HB5w.out.setCell (p := ⟨w.heap.size, 4, none⟩) (Nat.le_refl _) _⟩, ?_⟩
        · show StR _ _ _ _ _ _ _ _
          rw [HT2.out]
          exact stR_t_pl HN.out HSt.out
        · simp only [World.iterPos, HI5, HI.out]
          omega
      | false =>
        go_wp2_with (first | (go_at_call 55; refine HWh.out.mono ?_; rintro e w5 ⟨⟨x, rfl⟩, hb⟩; obtain ⟨hI, hX, hP, hC, hB⟩ := HM4.out w5 hb; have HI5w : Hid (w5.heap[w2.heap.size]? = some (.stringIter fm (k + 1))) := hI; have HX5w : Hid (w5.heap[w.heap.size]? = some (.cells #[.int .i64 (o : Int), .int .i64 d, .int .i64 a, .int .i64 b, .int .i64 n] 39)) := hX; have HP5w : Hid (w5.heap[wo.heap.size]? = some (.cells (pl.map Value.string).toArray 9)) := hP; have HB5w : Hid (Below w.heap.size w w5) := hB; have hz4 : w5.cell? ⟨w.heap.size, 4, none⟩ = some (.int .i64 n) := (by rw [cell_of_row _ _ _ _ _ _ hX]; rfl); have hf4 := row_free hX 4; have hsc : ∀ v, (w5.setCell ⟨w.heap.size, 4, none⟩ v).cell? ⟨wo.heap.size, k, none⟩ = some (.string pp) := (fun v => ((HKS.out w5 4 v).2 k).trans hC); clear hI hX hP hb hB) | (go_at_call 10; refine (HPn.out _).mono ?_; rintro e w6 ⟨rfl, rfl⟩))
        have HI5 : (w5.setCell ⟨w.heap.size, 4, none⟩ (.int .i64 x)).heap[w2.heap.size]? = some (.stringIter fm (k + 1)) := by rw [(HKS.out w5 4 (.int .i64 x)).1 _ (.inl rfl)]; exact HI5w.out
        refine ⟨⟨k + 1, d, a, b, x, pp, false, by omega, rfl, rfl, ?_, HI5, heap_setCell_same _ _ _ _ _ _ HX5w.out, by rw [(HKS.out w5 4 (.int .i64 x)).1 _ (.inr rfl)]; exact HP5w.out, HB5w.out.setCell (p := ⟨w.heap.size, 4, none⟩) (Nat.le_refl _) _⟩, ?_⟩
        · show StR _ _ _ _ _ _ _ _
          rw [HT2.out]
          exact stR_t_pl HN.out HSt.out
        · simp only [World.iterPos, HI5, HI.out]
          omega
    | false =>
      rw [hn] at HPn
      have HN : Hid (nameV pp.data.toList = false) := hn
      clear hn
      cases ob with
      | true =>
        go_wp2_with (first | (go_at_call 55; refine HWh.out.mono ?_; rintro e w5 ⟨⟨x, rfl⟩, hb⟩; obtain ⟨hI, hX, hP, hC, hB⟩ := HM4.out w5 hb; have HI5w : Hid (w5.heap[w2.heap.size]? = some (.stringIter fm (k + 1))) := hI; have HX5w : Hid (w5.heap[w.heap.size]? = some (.cells #[.int .i64 (o : Int), .int .i64 d, .int .i64 a, .int .i64 b, .int .i64 n] 39)) := hX; have HP5w : Hid (w5.heap[wo.heap.size]? = some (.cells (pl.map Value.string).toArray 9)) := hP; have HB5w : Hid (Below w.heap.size w w5) := hB; have hz4 : w5.cell? ⟨w.heap.size, 4, none⟩ = some (.int .i64 n) := (by rw [cell_of_row _ _ _ _ _ _ hX]; rfl); have hf4 := row_free hX 4; have hsc : ∀ v, (w5.setCell ⟨w.heap.size, 4, none⟩ v).cell? ⟨wo.heap.size, k, none⟩ = some (.string pp) := (fun v => ((HKS.out w5 4 v).2 k).trans hC); clear hI hX hP hb hB) | (go_at_call 10; refine (HPn.out _).mono ?_; rintro e w6 ⟨rfl, rfl⟩))
        have HI5 : (w5.setCell ⟨w.heap.size, 4, none⟩ (.int .i64 x)).heap[w2.heap.size]? = some (.stringIter fm (k + 1)) := by rw [(HKS.out w5 4 (.int .i64 x)).1 _ (.inl rfl)]; exact HI5w.out
        refine ⟨⟨k + 1, d, a, b, x, tb, false, by omega, rfl, rfl, ?_, HI5, heap_setCell_same _ _ _ _ _ _ HX5w.out, by rw [(HKS.out w5 4 (.int .i64 x)).1 _ (.inr rfl)]; exact HP5w.out, HB5w.out.setCell (p := ⟨w.heap.size, 4, none⟩) (Nat.le_refl _) _⟩, ?_⟩
        · show StR _ _ _ _ _ _ _ _
          rw [HT2.out]
          exact stR_t_no HV.out HN.out
        · simp only [World.iterPos, HI5, HI.out]
          omega
      | false =>
        go_wp2_with (first | (go_at_call 55; refine HWh.out.mono ?_; rintro e w5 ⟨⟨x, rfl⟩, hb⟩; obtain ⟨hI, hX, hP, hC, hB⟩ := HM4.out w5 hb; have HI5w : Hid (w5.heap[w2.heap.size]? = some (.stringIter fm (k + 1))) := hI; have HX5w : Hid (w5.heap[w.heap.size]? = some (.cells #[.int .i64 (o : Int), .int .i64 d, .int .i64 a, .int .i64 b, .int .i64 n] 39)) := hX; have HP5w : Hid (w5.heap[wo.heap.size]? = some (.cells (pl.map Value.string).toArray 9)) := hP; have HB5w : Hid (Below w.heap.size w w5) := hB; have hz4 : w5.cell? ⟨w.heap.size, 4, none⟩ = some (.int .i64 n) := (by rw [cell_of_row _ _ _ _ _ _ hX]; rfl); have hf4 := row_free hX 4; have hsc : ∀ v, (w5.setCell ⟨w.heap.size, 4, none⟩ v).cell? ⟨wo.heap.size, k, none⟩ = some (.string pp) := (fun v => ((HKS.out w5 4 v).2 k).trans hC); clear hI hX hP hb hB) | (go_at_call 10; refine (HPn.out _).mono ?_; rintro e w6 ⟨rfl, rfl⟩))
        have HI5 : (w5.setCell ⟨w.heap.size, 4, none⟩ (.int .i64 x)).heap[w2.heap.size]? = some (.stringIter fm (k + 1)) := by rw [(HKS.out w5 4 (.int .i64 x)).1 _ (.inl rfl)]; exact HI5w.out
        refine ⟨⟨k + 1, d, a, b, x, tb, false, by omega, rfl, rfl, ?_, HI5, heap_setCell_same _ _ _ _ _ _ HX5w.out, by rw [(HKS.out w5 4 (.int .i64 x)).1 _ (.inr rfl)]; exact HP5w.out, HB5w.out.setCell (p := ⟨w.heap.size, 4, none⟩) (Nat.le_refl _) _⟩, ?_⟩
        · show StR _ _ _ _ _ _ _ _
          rw [HT2.out]
          exact stR_t_no HV.out HN.out
        · simp only [World.iterPos, HI5, HI.out]
          omega
end Go.Proofs.YtjjjdplgdlaihaaGreatDoor
