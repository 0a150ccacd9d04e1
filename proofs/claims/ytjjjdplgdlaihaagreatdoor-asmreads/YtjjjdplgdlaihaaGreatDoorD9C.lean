/- ReadInst, letter by letter. -/
import Derived.Test.YtjjjdplgdlaihaaGreatDoorD9A
namespace Go.Proofs.YtjjjdplgdlaihaaGreatDoor
set_option linter.unusedVariables false
set_option linter.unusedSimpArgs false
open Go Go.RowKit
set_option maxRecDepth 1000000 in
set_option maxHeartbeats 8000000 in
theorem rd_m {s : ByteArray} {w wo w2 wr w4 : World} {kk o k : Nat} {rs nm fm pp tb : ByteArray} {pl : List ByteArray} {ks : By} {d a b n : Int} {ob : Bool} {KC : Act → World → Prop} {u9 u10 u35 u36 u37 u38 u39 u40 u41 u42 u43 u44 u45 u46 u47 u48 u49 u50 u13 u14 u15 u16 u17 u71 u72 u73 u74 u75 u76 u77 u78 u79 u80 u81 u82 u83 u84 u85 u86 u87 u88 u89 u90 u91 u92 u93 u94 u95 u96 u97 u98 u99 u100 u101 u102 u103 u104 u105 u106 u107 u108 u109 u110 u111 u112 u113 u114 u115 u116 u117 u118 u119 u120 u121 u122 u123 u124 u125 u126 u127 u128 u129 u130 u131 u132 u133 u134 u135 u136 u137 u138 u139 u140 u141 u142 u143 u144 u145 u146 u147 u148 u149 u150 u151 u152 u153 u154 u155 u156 u157 u158 u159 u160 u161 u162 u163 u164 u165 u166 u167 u168 u169 u170 u171 u172 u173 u174 u175 u176 u177 u178 u179 u180 u181 u182 u183 u184 u185 u186 u187 u188 u189 u190 u191 u192 u193 u194 u195 : Value}
    (hkl : k < ks.length) (hl : ks[k] = 40) (hi : k < fm.size) (hps : pp.size ≤ 1200)
    (HSt : Hid (StR (foldT (ks.take k) ((pl.map (·.data.toList)).take k) ⟨o, 0, 0, 0, 0, []⟩) o d a b n tb.data.toList ob))
    (HI : Hid (wr.heap[w2.heap.size]? = some (.stringIter fm k)))
    (HT : Hid (foldT (ks.take (k + 1)) ((pl.map (·.data.toList)).take (k + 1)) ⟨o, 0, 0, 0, 0, []⟩ = (foldT (ks.take k) ((pl.map (·.data.toList)).take k) ⟨o, 0, 0, 0, 0, []⟩).bind (takeV ks[k] pp.data.toList)))
    (HI4 : Hid (w4.heap[w2.heap.size]? = some (.stringIter fm (k + 1)))) (HX4 : Hid (w4.heap[w.heap.size]? = some (.cells #[.int .i64 (o : Int), .int .i64 d, .int .i64 a, .int .i64 b, .int .i64 n] 39))) (HP4 : Hid (w4.heap[wo.heap.size]? = some (.cells (pl.map Value.string).toArray 9))) (HB4 : Hid (Below w.heap.size w w4))
    (hnx : ∀ (ty : TypeId), (Instr.next (.pointer (some ⟨w2.heap.size, 0, none⟩)) true ty).run Tryz.prog wr = .ok (.tuple #[.bool true, .int .i64 (k : Int), .int .i32 ((shB ks[k]).toNat : Int)]) w4)
    (cP : w4.cell? ⟨wo.heap.size, k, none⟩ = some (.string pp)) (hlt4 : wo.heap.size < w4.heap.size)
    (HLoW : Hid (w.heap.size < wo.heap.size ∧ wo.heap.size < w2.heap.size)) (HEw : Hid (Env w4)) (HLen : Hid (List.length ks = pl.length))
    (HRV2 : Hid (readV s.data.toList = foldT ks (pl.map (·.data.toList)) ⟨o, 0, 0, 0, 0, []⟩)) :
    Code.wp Tryz.prog (loopAt Tryz.f22 1) (Exit.then (fun a' w' => WR s w wo w2 kk o rs nm fm pl ks u9 u10 u35 u36 u37 u38 u39 u40 u41 u42 u43 u44 u45 u46 u47 u48 u49 u50 a' w' ∧ fm.size - w'.iterPos w2.heap.size < fm.size - wr.iterPos w2.heap.size) (Exit.inBlock 2 (Exit.then KC (bodyPost Tryz.prog Tryz.f22 fun e w' => RdOut (readV s.data.toList) e ∧ Below w.heap.size w w'))))
      { tmps := #[Value.string s, undef, Value.pointer (some ⟨w.heap.size, 0, none⟩), Value.string tb, Value.bool ob, Value.string nm, Value.string rs, Value.int .i64 (kk : Int), Value.int .i64 40, u9, u10, Value.slice (some ⟨wo.heap.size, 0, none⟩) fm.size fm.size, Value.string fm, u13, u14, u15, u16, u17, Value.string s, Value.string s, Value.int .i64 (kk : Int), Value.int .i64 (kk : Int), Value.bool true, Value.string s, Value.int .i64 (kk : Int), Value.string nm, Value.string s, Value.int .i64 (kk : Int), Value.string (s.extract kk s.size), Value.string rs, Value.string rs, Value.bool false, undef, Value.int .i64 40, Value.bool false, u35, u36, u37, u38, u39, u40, u41, u42, u43, u44, u45, u46, u47, u48, u49, u50, Value.string rs, Value.bool true, Value.string rs, Value.slice (some ⟨wo.heap.size, 0, none⟩) fm.size fm.size, Value.pointer (some ⟨w.heap.size, 0, none⟩), Value.int .i64 (o : Int), Value.string fm, Value.pointer (some ⟨w.heap.size, 0, none⟩), Value.int .i64 (o : Int), Value.bool false, Value.bool false, Value.slice (some ⟨wo.heap.size, 0, none⟩) fm.size fm.size, Value.int .i64 (fm.size : Int), Value.string fm, Value.int .i64 (fm.size : Int), Value.bool false, Value.bool false, undef, Value.string fm, Value.pointer (some ⟨w2.heap.size, 0, none⟩), u71, u72, u73, u74, u75, u76, u77, u78, u79, u80, u81, u82, u83, u84, u85, u86, u87, u88, u89, u90, u91, u92, u93, u94, u95, u96, u97, u98, u99, u100, u101, u102, u103, u104, u105, u106, u107, u108, u109, u110, u111, u112, u113, u114, u115, u116, u117, u118, u119, u120, u121, u122, u123, u124, u125, u126, u127, u128, u129, u130, u131, u132, u133, u134, u135, u136, u137, u138, u139, u140, u141, u142, u143, u144, u145, u146, u147, u148, u149, u150, u151, u152, u153, u154, u155, u156, u157, u158, u159, u160, u161, u162, u163, u164, u165, u166, u167, u168, u169, u170, u171, u172, u173, u174, u175, u176, u177, u178, u179, u180, u181, u182, u183, u184, u185, u186, u187, u188, u189, u190, u191, u192, u193, u194, u195, undef, undef, undef], defers := [] } wr := by
  conv => arg 2; whnf
  unfold WR
  have HM4 : Hid (∀ w5, Below w4.heap.size w4 w5 → w5.heap[w2.heap.size]? = some (.stringIter fm (k + 1)) ∧ w5.heap[w.heap.size]? = some (.cells #[.int .i64 (o : Int), .int .i64 d, .int .i64 a, .int .i64 b, .int .i64 n] 39) ∧ w5.heap[wo.heap.size]? = some (.cells (pl.map Value.string).toArray 9) ∧ w5.cell? ⟨wo.heap.size, k, none⟩ = some (.string pp) ∧ Below w.heap.size w w5) := fun w5 hb => by
    have h1 : w2.heap.size < w4.heap.size := (Array.getElem?_eq_some_iff.1 HI4.out).1
    have h2 := HLoW.out
    refine ⟨by rw [hb.block _ h1]; exact HI4.out, by rw [hb.block _ (by omega)]; exact HX4.out, by rw [hb.block _ (by omega)]; exact HP4.out, ?_, HB4.out.trans (hb.mono (by omega))⟩
    have e := hb.cell (p := ⟨wo.heap.size, k, none⟩) (show wo.heap.size < _ by omega)
    rw [e]; exact cP
  have HKS : Hid (∀ (W : World) (i : Nat) (v : Value), (∀ m, m = w2.heap.size ∨ m = wo.heap.size → (W.setCell ⟨w.heap.size, i, none⟩ v).heap[m]? = W.heap[m]?) ∧ (∀ c, (W.setCell ⟨w.heap.size, i, none⟩ v).cell? ⟨wo.heap.size, c, none⟩ = W.cell? ⟨wo.heap.size, c, none⟩)) := fun W i v => by
    have h2 := HLoW.out
    refine ⟨fun m hm => heap_setCell_other _ _ _ _ (by show m ≠ w.heap.size; omega), fun c => ?_⟩
    exact World.cell?_setCell_other _ _ _ _ (by intro h; injection h with h1; omega)
  have c1 : w4.cell? ⟨w.heap.size, 1, none⟩ = some (.int .i64 d) := by rw [cell_of_row _ _ _ _ _ _ HX4.out]; rfl
  have c2 : w4.cell? ⟨w.heap.size, 2, none⟩ = some (.int .i64 a) := by rw [cell_of_row _ _ _ _ _ _ HX4.out]; rfl
  have c3 : w4.cell? ⟨w.heap.size, 3, none⟩ = some (.int .i64 b) := by rw [cell_of_row _ _ _ _ _ _ HX4.out]; rfl
  have c4 : w4.cell? ⟨w.heap.size, 4, none⟩ = some (.int .i64 n) := by rw [cell_of_row _ _ _ _ _ _ HX4.out]; rfl
  have f1 := row_free HX4.out 1
  have f2 := row_free HX4.out 2
  have f3 := row_free HX4.out 3
  have f4 := row_free HX4.out 4
  have e1 : ((shB ks[k]).toNat : Int) = 109 := by rw [hl]; rfl
  rw [e1] at hnx
  have HT2 : Hid (foldT (ks.take (k + 1)) ((pl.map (·.data.toList)).take (k + 1)) ⟨o, 0, 0, 0, 0, []⟩ = (foldT (ks.take k) ((pl.map (·.data.toList)).take k) ⟨o, 0, 0, 0, 0, []⟩).bind (takeV 40 pp.data.toList)) := by show _ = _; rw [HT.out, hl]
  clear e1 hl HT
  generalize foldT (ks.take k) ((pl.map (·.data.toList)).take k) ⟨o, 0, 0, 0, 0, []⟩ = F at *
  have HIx : Hid (Calls Tryz.prog 53 #[.string pp, .int .u8 40] w4 fun e w' => e = .returned (.int .i64 (Lib.indexByte pp.data.toList 40)) ∧ w' = w4) := Tryz.strings_IndexByte pp 40 w4
  rcases ixB_cases pp.data.toList 40 with hj | hj
  · have HJ : Hid (Lib.indexByte pp.data.toList 40 = -1) := hj
    rw [hj] at HIx
    clear hj
    go_wp2_with (go_at_call 53; refine HIx.out.mono ?_; rintro e w5 ⟨rfl, rfl⟩)
    have HNo : Hid (readV s.data.toList = none) := by
      show _ = _
      rw [HRV2.out]
      refine fold_drop _ _ _ (k + 1) (by rw [List.length_map]; exact HLen.out) ?_
      rw [HT2.out]
      exact mem_none (cut_miss 40 _ HJ.out) (.inl (by simp))
    go_quiet (fail)
    have HXq : (w5.drewN nq).heap[w.heap.size]? = some (.cells #[.int .i64 (o : Int), .int .i64 d, .int .i64 a, .int .i64 b, .int .i64 n] 39) := HX4.out
    have HXQ : Hid ((w5.drewN nq).heap[w.heap.size]? = some (.cells #[.int .i64 (o : Int), .int .i64 d, .int .i64 a, .int .i64 b, .int .i64 n] 39)) := HXq
    have HBQ : Hid (Below w.heap.size w (w5.drewN nq)) := below_drewN HB4.out _
    have t0 : (w5.drewN nq).cell? ⟨w.heap.size, 0, none⟩ = some (.int .i64 (o : Int)) := by rw [cell_of_row _ _ _ _ _ _ HXq]; rfl
    have t1 : (w5.drewN nq).cell? ⟨w.heap.size, 1, none⟩ = some (.int .i64 d) := by rw [cell_of_row _ _ _ _ _ _ HXq]; rfl
    have t2 : (w5.drewN nq).cell? ⟨w.heap.size, 2, none⟩ = some (.int .i64 a) := by rw [cell_of_row _ _ _ _ _ _ HXq]; rfl
    have t3 : (w5.drewN nq).cell? ⟨w.heap.size, 3, none⟩ = some (.int .i64 b) := by rw [cell_of_row _ _ _ _ _ _ HXq]; rfl
    have t4 : (w5.drewN nq).cell? ⟨w.heap.size, 4, none⟩ = some (.int .i64 n) := by rw [cell_of_row _ _ _ _ _ _ HXq]; rfl
    clear HXq
    go_wp2_with (refine wpList_store_row rfl 39 _ _ rfl _ 39 _ _ rfl rfl HXQ.out (by kernel_rfl) rfl (one5 _ _ _ _ _) ?_)
    refine bodyPost_ret (res22 _ _ w.heap.size _ _ _ _ _ rfl (setRow_heap _ _ _ _ _ _ HXQ.out)) rfl ⟨?_, below_setRow HBQ.out (Nat.le_refl _) _⟩
    rw [HNo.out]
    exact ⟨_, _, _, _, _, _, rfl⟩
  · obtain ⟨j, hj2⟩ : ∃ j : Nat, Lib.indexByte pp.data.toList 40 = j := ⟨(Lib.indexByte pp.data.toList 40).toNat, by omega⟩
    have hjl := ix_lt 40 _ _ hj2
    have hjs : j < pp.size := by simpa using hjl
    have HJ : Hid (Lib.indexByte pp.data.toList 40 = j) := hj2
    rw [hj2] at HIx
    clear hj hj2 hjl
    have hj0 : decide ((j : Int) < 0) = false := by simp
    go_wp2_with (go_at_call 53; refine HIx.out.mono ?_; rintro e w5 ⟨rfl, rfl⟩)
    obtain ⟨c, hcl, hIdx'⟩ := idx_last pp (by omega)
    obtain ⟨m, hm⟩ : ∃ m : Nat, m = pp.size - 1 := ⟨_, rfl⟩
    obtain ⟨j1, hj1⟩ : ∃ j1 : Nat, j1 = j + 1 := ⟨_, rfl⟩
    have hw1 : IntKind.i64.wrap ((pp.size : Int) - 1) = (m : Int) := by rw [wrap_ok _ (by omega) (by omega)]; omega
    have hw2 : IntKind.i64.wrap ((j : Int) + 1) = (j1 : Int) := by rw [wrap_ok _ (by omega) (by omega)]; omega
    have hIdx : ∀ W : World, (Instr.index 9 (.string pp) (.int .i64 (m : Int))).run Tryz.prog W = .ok (.int .u8 (c.toNat : Int)) W := fun W => by
      have := hIdx' W
      rw [show ((pp.size : Int) - 1) = (m : Int) by omega] at this
      exact this
    have hms : m ≤ pp.size := by omega
    clear hIdx'
    by_cases hc41 : c = 41
    · have hlast : (pp.data.toList.drop (j + 1)).getLast? = some 41 := (last_cut _ _ (ix_at 40 _ _ HJ.out)).2 (by rw [← hc41]; exact hcl)
      have hjm : j1 ≤ m := by
        have h1 : (pp.data.toList.drop (j + 1)).length ≠ 0 := fun e => by
          rw [List.length_eq_zero_iff.1 e] at hlast
          cases hlast
        rw [List.length_drop] at h1
        have e : pp.data.toList.length = pp.size := by simp
        omega
      have HLa : Hid ((pp.data.toList.drop (j + 1)).getLast? = some 41) := hlast
      clear hlast
      have hjp : j ≤ pp.size := by omega
      have HM1 : Hid (m = pp.size - 1) := hm
      have HJ1 : Hid (j1 = j + 1) := hj1
      have HCl : Hid (pp.data.toList.getLast? = some 41) := by rw [← hc41]; exact hcl
      have hIdx2 : ∀ W : World, (Instr.index 9 (.string pp) (.int .i64 (m : Int))).run Tryz.prog W = .ok (.int .u8 41) W := fun W => by
        rw [hIdx W, hc41]; rfl
      clear hIdx hm hj1 hcl hc41
      go_quiet (fail)
      obtain ⟨w6, hw6⟩ : ∃ w6, w6 = w5.drewN nq := ⟨_, rfl⟩
      have HI6 : Hid (w6.heap[w2.heap.size]? = some (.stringIter fm (k + 1))) := by rw [hw6]; exact HI4.out
      have HX6 : Hid (w6.heap[w.heap.size]? = some (.cells #[.int .i64 (o : Int), .int .i64 d, .int .i64 a, .int .i64 b, .int .i64 n] 39)) := by rw [hw6]; exact HX4.out
      have HP6 : Hid (w6.heap[wo.heap.size]? = some (.cells (pl.map Value.string).toArray 9)) := by rw [hw6]; exact HP4.out
      have HB6 : Hid (Below w.heap.size w w6) := by rw [hw6]; exact below_drewN HB4.out _
      have HE6 : Hid (Env w6) := by rw [hw6]; exact HEw.out.below (below_drewN (Below.refl _ _) _)
      have hcP6 : w6.cell? ⟨wo.heap.size, k, none⟩ = some (.string pp) := by rw [hw6]; exact cP
      rw [← hw6]
      clear hw6 cP c1 c2 c3 c4 f1 f2 f3 f4 HI4 HX4 HP4 HB4 HEw HM4
      have HM6 : Hid (∀ w7, Below w6.heap.size w6 w7 → w7.heap[w2.heap.size]? = some (.stringIter fm (k + 1)) ∧ w7.heap[w.heap.size]? = some (.cells #[.int .i64 (o : Int), .int .i64 d, .int .i64 a, .int .i64 b, .int .i64 n] 39) ∧ w7.heap[wo.heap.size]? = some (.cells (pl.map Value.string).toArray 9) ∧ w7.cell? ⟨wo.heap.size, k, none⟩ = some (.string pp) ∧ Below w.heap.size w w7) := fun w7 hb => by
        have h1 : w2.heap.size < w6.heap.size := (Array.getElem?_eq_some_iff.1 HI6.out).1
        have h2 := HLoW.out
        refine ⟨by rw [hb.block _ h1]; exact HI6.out, by rw [hb.block _ (by omega)]; exact HX6.out, by rw [hb.block _ (by omega)]; exact HP6.out, ?_, HB6.out.trans (hb.mono (by omega))⟩
        have e := hb.cell (p := ⟨wo.heap.size, k, none⟩) (show wo.heap.size < _ by omega)
        rw [e]; exact hcP6
      have hq0 : (pp.extract 0 j).data.toList = pp.data.toList.take j := Lib.extract_from_zero _ _
      have hq1 : (pp.extract 0 j).size ≤ 1200 := by
        have e : (pp.extract 0 j).size = (pp.extract 0 j).data.toList.length := by simp
        rw [e, hq0, List.length_take]; omega
      have HRg : Hid (∀ W, Calls Tryz.prog 54 #[.string (pp.extract j1 m)] W fun e w' => e = .returned (.tuple #[.int .i64 ((rgsV (pp.extract j1 m).data.toList).getD 0), .bool (rgsV (pp.extract j1 m).data.toList).isSome]) ∧ w' = W) := fun W => reg_doc _ W
      have hq2 : (pp.extract j1 m).data.toList = (pp.data.toList.drop (j + 1)).dropLast := by
        rw [ext_mid pp j1 m HM1.out hjm, HJ1.out]
      have hcut := cut_at 40 _ _ HJ.out
      have hlast := HLa.out
      rw [hq2] at HRg
      cases hv : numV (pp.data.toList.take j) with
      | some v =>
        have HWh : Hid (Calls Tryz.prog 55 #[.string (pp.extract 0 j)] w6 fun e w' => e = .returned (.tuple #[.int .i64 v, .bool true]) ∧ Below w6.heap.size w6 w') := whole_yes _ v w6 HE6.out (by omega) (by rw [hq0]; exact hv)
        have HFin := stR_m hcut hlast hv HSt.out
        generalize (rgsV (pp.data.toList.drop (j + 1)).dropLast).getD 0 = r at *
        generalize (rgsV (pp.data.toList.drop (j + 1)).dropLast).isSome = ib at *
        have HFin : Hid _ := HFin
        clear hv hcut hlast hq0 hq1 hq2
        cases ob with
        | true =>
          go_wp2_with (go_at_call 55; refine HWh.out.mono ?_; rintro e w7 ⟨rfl, hb⟩; obtain ⟨hI, hX, hP, hC, hB⟩ := HM6.out w7 hb; have HI7 : Hid (w7.heap[w2.heap.size]? = some (.stringIter fm (k + 1))) := hI; have HX7 : Hid (w7.heap[w.heap.size]? = some (.cells #[.int .i64 (o : Int), .int .i64 d, .int .i64 a, .int .i64 b, .int .i64 n] 39)) := hX; have HP7 : Hid (w7.heap[wo.heap.size]? = some (.cells (pl.map Value.string).toArray 9)) := hP; have HB7 : Hid (Below w.heap.size w w7) := hB; have hz4 : w7.cell? ⟨w.heap.size, 4, none⟩ = some (.int .i64 n) := (by rw [cell_of_row _ _ _ _ _ _ hX]; rfl); have hf4 := row_free hX 4; have hz2 : w7.cell? ⟨w.heap.size, 2, none⟩ = some (.int .i64 a) := (by rw [cell_of_row _ _ _ _ _ _ hX]; rfl); have hf2 := row_free hX 2; have hsc : ∀ v, (w7.setCell ⟨w.heap.size, 4, none⟩ v).cell? ⟨wo.heap.size, k, none⟩ = some (.string pp) := (fun v => ((HKS.out w7 4 v).2 k).trans hC); clear hI hX hP hb hB)
          go_region_with (go_at_call 54; refine (HRg.out _).mono ?_; rintro e w8 ⟨rfl, rfl⟩)
          all_goals go_wp2
          all_goals
            have HI5 : (((w7.setCell ⟨w.heap.size, 4, none⟩ (.int .i64 v)).setCell ⟨w.heap.size, 2, none⟩ (.int .i64 r)).drew).heap[w2.heap.size]? = some (.stringIter fm (k + 1)) := ((HKS.out _ 2 _).1 _ (.inl rfl)).trans (((HKS.out _ 4 _).1 _ (.inl rfl)).trans HI7.out)
            refine ⟨⟨k + 1, d, r, b, v, tb, ib, by omega, rfl, rfl, ?_, HI5, heap_setCell_same _ _ _ _ _ _ (heap_setCell_same _ _ _ _ _ _ HX7.out), ((HKS.out _ 2 _).1 _ (.inr rfl)).trans (((HKS.out _ 4 _).1 _ (.inr rfl)).trans HP7.out), below_drew ((HB7.out.setCell (p := ⟨w.heap.size, 4, none⟩) (Nat.le_refl _) _).setCell (p := ⟨w.heap.size, 2, none⟩) (Nat.le_refl _) _)⟩, ?_⟩
            · show StR _ _ _ _ _ _ _ _
              rw [HT2.out]
              exact HFin.out
            · simp only [World.iterPos, HI5, HI.out]
              omega
        | false =>
          go_wp2_with (go_at_call 55; refine HWh.out.mono ?_; rintro e w7 ⟨rfl, hb⟩; obtain ⟨hI, hX, hP, hC, hB⟩ := HM6.out w7 hb; have HI7 : Hid (w7.heap[w2.heap.size]? = some (.stringIter fm (k + 1))) := hI; have HX7 : Hid (w7.heap[w.heap.size]? = some (.cells #[.int .i64 (o : Int), .int .i64 d, .int .i64 a, .int .i64 b, .int .i64 n] 39)) := hX; have HP7 : Hid (w7.heap[wo.heap.size]? = some (.cells (pl.map Value.string).toArray 9)) := hP; have HB7 : Hid (Below w.heap.size w w7) := hB; have hz4 : w7.cell? ⟨w.heap.size, 4, none⟩ = some (.int .i64 n) := (by rw [cell_of_row _ _ _ _ _ _ hX]; rfl); have hf4 := row_free hX 4; have hz2 : w7.cell? ⟨w.heap.size, 2, none⟩ = some (.int .i64 a) := (by rw [cell_of_row _ _ _ _ _ _ hX]; rfl); have hf2 := row_free hX 2; have hsc : ∀ v, (w7.setCell ⟨w.heap.size, 4, none⟩ v).cell? ⟨wo.heap.size, k, none⟩ = some (.string pp) := (fun v => ((HKS.out w7 4 v).2 k).trans hC); clear hI hX hP hb hB)
          go_region_with (go_at_call 54; refine (HRg.out _).mono ?_; rintro e w8 ⟨rfl, rfl⟩)
          all_goals go_wp2
          all_goals
            have HI5 : (((w7.setCell ⟨w.heap.size, 4, none⟩ (.int .i64 v)).setCell ⟨w.heap.size, 2, none⟩ (.int .i64 r)).drew).heap[w2.heap.size]? = some (.stringIter fm (k + 1)) := ((HKS.out _ 2 _).1 _ (.inl rfl)).trans (((HKS.out _ 4 _).1 _ (.inl rfl)).trans HI7.out)
            refine ⟨⟨k + 1, d, r, b, v, tb, false, by omega, rfl, rfl, ?_, HI5, heap_setCell_same _ _ _ _ _ _ (heap_setCell_same _ _ _ _ _ _ HX7.out), ((HKS.out _ 2 _).1 _ (.inr rfl)).trans (((HKS.out _ 4 _).1 _ (.inr rfl)).trans HP7.out), below_drew ((HB7.out.setCell (p := ⟨w.heap.size, 4, none⟩) (Nat.le_refl _) _).setCell (p := ⟨w.heap.size, 2, none⟩) (Nat.le_refl _) _)⟩, ?_⟩
            · show StR _ _ _ _ _ _ _ _
              rw [HT2.out]
              exact HFin.out
            · simp only [World.iterPos, HI5, HI.out]
              omega
      | none =>
        have HWh : Hid (Calls Tryz.prog 55 #[.string (pp.extract 0 j)] w6 fun e w' => (∃ x : Int, e = .returned (.tuple #[.int .i64 x, .bool false])) ∧ Below w6.heap.size w6 w') := whole_no _ w6 HE6.out (by omega) (by rw [hq0]; exact hv)
        generalize (rgsV (pp.data.toList.drop (j + 1)).dropLast).getD 0 = r at *
        generalize (rgsV (pp.data.toList.drop (j + 1)).dropLast).isSome = ib at *
        have HCut : Hid _ := hcut
        have HV : Hid (numV (pp.data.toList.take j) = none) := hv
        clear hv hcut hlast hq0 hq1 hq2
        cases ob with
        | true =>
          go_wp2_with (go_at_call 55; refine HWh.out.mono ?_; rintro e w7 ⟨⟨x, rfl⟩, hb⟩; obtain ⟨hI, hX, hP, hC, hB⟩ := HM6.out w7 hb; have HI7 : Hid (w7.heap[w2.heap.size]? = some (.stringIter fm (k + 1))) := hI; have HX7 : Hid (w7.heap[w.heap.size]? = some (.cells #[.int .i64 (o : Int), .int .i64 d, .int .i64 a, .int .i64 b, .int .i64 n] 39)) := hX; have HP7 : Hid (w7.heap[wo.heap.size]? = some (.cells (pl.map Value.string).toArray 9)) := hP; have HB7 : Hid (Below w.heap.size w w7) := hB; have hz4 : w7.cell? ⟨w.heap.size, 4, none⟩ = some (.int .i64 n) := (by rw [cell_of_row _ _ _ _ _ _ hX]; rfl); have hf4 := row_free hX 4; have hz2 : w7.cell? ⟨w.heap.size, 2, none⟩ = some (.int .i64 a) := (by rw [cell_of_row _ _ _ _ _ _ hX]; rfl); have hf2 := row_free hX 2; have hsc : ∀ v, (w7.setCell ⟨w.heap.size, 4, none⟩ v).cell? ⟨wo.heap.size, k, none⟩ = some (.string pp) := (fun v => ((HKS.out w7 4 v).2 k).trans hC); clear hI hX hP hb hB)
          go_region_with (go_at_call 54; refine (HRg.out _).mono ?_; rintro e w8 ⟨rfl, rfl⟩)
          all_goals go_wp2
          all_goals
            have HI5 : (((w7.setCell ⟨w.heap.size, 4, none⟩ (.int .i64 x)).setCell ⟨w.heap.size, 2, none⟩ (.int .i64 r)).drew).heap[w2.heap.size]? = some (.stringIter fm (k + 1)) := ((HKS.out _ 2 _).1 _ (.inl rfl)).trans (((HKS.out _ 4 _).1 _ (.inl rfl)).trans HI7.out)
            refine ⟨⟨k + 1, d, r, b, x, tb, false, by omega, rfl, rfl, ?_, HI5, heap_setCell_same _ _ _ _ _ _ (heap_setCell_same _ _ _ _ _ _ HX7.out), ((HKS.out _ 2 _).1 _ (.inr rfl)).trans (((HKS.out _ 4 _).1 _ (.inr rfl)).trans HP7.out), below_drew ((HB7.out.setCell (p := ⟨w.heap.size, 4, none⟩) (Nat.le_refl _) _).setCell (p := ⟨w.heap.size, 2, none⟩) (Nat.le_refl _) _)⟩, ?_⟩
            · show StR _ _ _ _ _ _ _ _
              rw [HT2.out]
              exact stR_m_no HCut.out (.inr HV.out)
            · simp only [World.iterPos, HI5, HI.out]
              omega
        | false =>
          go_wp2_with (go_at_call 55; refine HWh.out.mono ?_; rintro e w7 ⟨⟨x, rfl⟩, hb⟩; obtain ⟨hI, hX, hP, hC, hB⟩ := HM6.out w7 hb; have HI7 : Hid (w7.heap[w2.heap.size]? = some (.stringIter fm (k + 1))) := hI; have HX7 : Hid (w7.heap[w.heap.size]? = some (.cells #[.int .i64 (o : Int), .int .i64 d, .int .i64 a, .int .i64 b, .int .i64 n] 39)) := hX; have HP7 : Hid (w7.heap[wo.heap.size]? = some (.cells (pl.map Value.string).toArray 9)) := hP; have HB7 : Hid (Below w.heap.size w w7) := hB; have hz4 : w7.cell? ⟨w.heap.size, 4, none⟩ = some (.int .i64 n) := (by rw [cell_of_row _ _ _ _ _ _ hX]; rfl); have hf4 := row_free hX 4; have hz2 : w7.cell? ⟨w.heap.size, 2, none⟩ = some (.int .i64 a) := (by rw [cell_of_row _ _ _ _ _ _ hX]; rfl); have hf2 := row_free hX 2; have hsc : ∀ v, (w7.setCell ⟨w.heap.size, 4, none⟩ v).cell? ⟨wo.heap.size, k, none⟩ = some (.string pp) := (fun v => ((HKS.out w7 4 v).2 k).trans hC); clear hI hX hP hb hB)
          go_region_with (go_at_call 54; refine (HRg.out _).mono ?_; rintro e w8 ⟨rfl, rfl⟩)
          all_goals go_wp2
          all_goals
            have HI5 : (((w7.setCell ⟨w.heap.size, 4, none⟩ (.int .i64 x)).setCell ⟨w.heap.size, 2, none⟩ (.int .i64 r)).drew).heap[w2.heap.size]? = some (.stringIter fm (k + 1)) := ((HKS.out _ 2 _).1 _ (.inl rfl)).trans (((HKS.out _ 4 _).1 _ (.inl rfl)).trans HI7.out)
            refine ⟨⟨k + 1, d, r, b, x, tb, false, by omega, rfl, rfl, ?_, HI5, heap_setCell_same _ _ _ _ _ _ (heap_setCell_same _ _ _ _ _ _ HX7.out), ((HKS.out _ 2 _).1 _ (.inr rfl)).trans (((HKS.out _ 4 _).1 _ (.inr rfl)).trans HP7.out), below_drew ((HB7.out.setCell (p := ⟨w.heap.size, 4, none⟩) (Nat.le_refl _) _).setCell (p := ⟨w.heap.size, 2, none⟩) (Nat.le_refl _) _)⟩, ?_⟩
            · show StR _ _ _ _ _ _ _ _
              rw [HT2.out]
              exact stR_m_no HCut.out (.inr HV.out)
            · simp only [World.iterPos, HI5, HI.out]
              omega
    · have hcn : ((c.toNat : Int) != 41) = true := by
        have : c.toNat ≠ 41 := fun e => hc41 (UInt8.toNat_inj.1 e)
        simp; omega
      have HNo : Hid (readV s.data.toList = none) := by
        show _ = _
        rw [HRV2.out]
        refine fold_drop _ _ _ (k + 1) (by rw [List.length_map]; exact HLen.out) ?_
        rw [HT2.out]
        refine mem_none (cut_at 40 _ _ HJ.out) (.inl (fun e => hc41 ?_))
        rw [last_cut _ _ (ix_at 40 _ _ HJ.out), hcl] at e
        injection e
      clear hc41 hcl hm hj1
      generalize (c.toNat : Int) = lc at *
      go_quiet (fail)
      have HXq : (w5.drewN nq).heap[w.heap.size]? = some (.cells #[.int .i64 (o : Int), .int .i64 d, .int .i64 a, .int .i64 b, .int .i64 n] 39) := HX4.out
      have HXQ : Hid ((w5.drewN nq).heap[w.heap.size]? = some (.cells #[.int .i64 (o : Int), .int .i64 d, .int .i64 a, .int .i64 b, .int .i64 n] 39)) := HXq
      have HBQ : Hid (Below w.heap.size w (w5.drewN nq)) := below_drewN HB4.out _
      have t0 : (w5.drewN nq).cell? ⟨w.heap.size, 0, none⟩ = some (.int .i64 (o : Int)) := by rw [cell_of_row _ _ _ _ _ _ HXq]; rfl
      have t1 : (w5.drewN nq).cell? ⟨w.heap.size, 1, none⟩ = some (.int .i64 d) := by rw [cell_of_row _ _ _ _ _ _ HXq]; rfl
      have t2 : (w5.drewN nq).cell? ⟨w.heap.size, 2, none⟩ = some (.int .i64 a) := by rw [cell_of_row _ _ _ _ _ _ HXq]; rfl
      have t3 : (w5.drewN nq).cell? ⟨w.heap.size, 3, none⟩ = some (.int .i64 b) := by rw [cell_of_row _ _ _ _ _ _ HXq]; rfl
      have t4 : (w5.drewN nq).cell? ⟨w.heap.size, 4, none⟩ = some (.int .i64 n) := by rw [cell_of_row _ _ _ _ _ _ HXq]; rfl
      clear HXq
      go_wp2_with (refine wpList_store_row rfl 39 _ _ rfl _ 39 _ _ rfl rfl HXQ.out (by kernel_rfl) rfl (one5 _ _ _ _ _) ?_)
      refine bodyPost_ret (res22 _ _ w.heap.size _ _ _ _ _ rfl (setRow_heap _ _ _ _ _ _ HXQ.out)) rfl ⟨?_, below_setRow HBQ.out (Nat.le_refl _) _⟩
      rw [HNo.out]
      exact ⟨_, _, _, _, _, _, rfl⟩
end Go.Proofs.YtjjjdplgdlaihaaGreatDoor
