/- The document's Assemble, walked. -/
import Derived.Test.YtjjjdplgdlaihaaGreatDoorMN
import Derived.Test.YtjjjdplgdlaihaaGreatDoorD9
import Derived.Deep.RegionLaw
namespace Go.Proofs.YtjjjdplgdlaihaaGreatDoor
set_option linter.unusedVariables false
set_option linter.unusedSimpArgs false
open Go Go.RowKit

/-- bloomeryref.Fine, as it was laid. -/
def FineT (w : World) : Prop := w.cell? ⟨0, 0, none⟩ = some (.int .i64 0) ∧ w.cell? ⟨0, 1, none⟩ = some (.int .i64 (-1))
/-- What Assemble hands back. -/
def AsOut (B : Nat) : Except (Int × Nat) (List Dr) → Ending → World → Prop
  | .ok out, e, w' => ∃ v, e = .returned (.tuple #[v, .agg #[.int .i64 0, .int .i64 (-1)]]) ∧ w'.ownsRow B 39 5 v out.length (ins out)
  | .error (c, ln), e, _ => e = .returned (.tuple #[.slice none 0 0, .agg #[.int .i64 c, .int .i64 (ln : Int)]])
theorem results_tmp_cell {fn : Func} {p u : Tmp} {ty : TypeId} (h : fn.results = #[.tmp u, .cell p ty]) (tmps : Array Value) (P : Program) (w : World) :
    (results fn tmps).run P w = ((asAddr (tmps.getD p undef)).run P w).andThen fun a w₁ => ((loadVar ty a).run P w₁).andThen fun x w₂ => .ok (.tuple #[tmps.getD u undef, x]) w₂ := by
  simp only [results, h]
  simp [Sem.run_bind, Result.andThen]
theorem res5 (tmps : Array Value) (w : World) (g : Nat) (a b : Value) (hp : tmps.getD 3 undef = .pointer (some ⟨g, 0, none⟩)) (hg : w.heap[g]? = some (.cells #[a, b] 25)) :
    (results Tryz.f5 tmps).run Tryz.prog w = .ok (.tuple #[tmps.getD 2 undef, .agg #[a, b]]) w := by
  rw [results_tmp_cell Tryz.results5, hp]
  have h1 : (loadVar 25 ⟨g, 0, none⟩).run Tryz.prog w = .ok (.agg #[a, b]) w := run_loadVar_row w g 25 25 _ (0, 0) _ hg Tryz.underlying25 rfl (by kernel_rfl)
  simp only [asAddr, Sem.run_pure, Result.andThen_ok, h1]
theorem info9 : (Tryz.prog.info? 9).map (fun i => (i.zero, i.size, i.bytes)) = some (some (.string ⟨#[]⟩), 1, 16) := by kernel_rfl
theorem info3 : (Tryz.prog.info? 3).map (fun i => (i.zero, i.size, i.bytes)) = some (some (.int .i64 0), 1, 8) := by kernel_rfl

theorem trim_last (l : By) : (trimV l).getLast? ≠ some 32 := by
  unfold trimV
  have h1 : (l.reverse.dropWhile (· == 32)).reverse.getLast? ≠ some 32 := by
    rw [List.getLast?_reverse]
    intro h
    have := List.head?_dropWhile_not (fun x : UInt8 => x == 32) l.reverse
    rw [h] at this
    simp at this
  generalize (l.reverse.dropWhile (· == 32)).reverse = r at *
  intro h
  have e : r = r.takeWhile (· == 32) ++ r.dropWhile (· == 32) := (List.takeWhile_append_dropWhile).symm
  apply h1
  rw [e, List.getLast?_append, h]
  rfl
theorem own_slice {W : World} {B e z n : Nat} {v : Value} {l : List Value} (h : W.ownsRow B e z v n l) : ∃ q c, v = .slice q n c := by
  rcases h.2 with ⟨rfl, rfl⟩ | ⟨g, cap, cur, rfl, _⟩
  · exact ⟨_, _, rfl⟩
  · exact ⟨_, _, rfl⟩

set_option maxRecDepth 100000 in
set_option maxHeartbeats 8000000 in
theorem asmdoc (s : ByteArray) (w : World) (he : Env w) (hF : FineT w) (hs : s.size ≤ 1200) :
    Calls Tryz.prog 5 #[.string s] w fun e w' => AsOut w.heap.size (asmV rtD s.data.toList) e w' ∧ Below w.heap.size w w' := by
  obtain ⟨i5, hi5, hz5, hs5, hb5⟩ := info_parts info30
  obtain ⟨i6, hi6, hz6, hs6, hb6⟩ := info_parts info9
  obtain ⟨i7, hi7, hz7, hs7, hb7⟩ := info_parts info3
  have hmm := @run_makeMap Tryz.prog
  obtain ⟨W1, hW1⟩ : ∃ W1, W1 = (w.alloc (.cells #[.int .i64 0, .int .i64 0] 25)).alloc (.map #[] 0) := ⟨_, rfl⟩
  have hB1 : Below w.heap.size w W1 := by rw [hW1]; exact ((Below.refl _ _).alloc (Nat.le_refl _) _).alloc (by simp) _
  have hsz1 : W1.heap.size = w.heap.size + 2 := by rw [hW1]; simp
  obtain ⟨mx, hmx⟩ := (he.below hB1).max
  obtain ⟨pls, hpls⟩ : ∃ pl : List ByteArray, pl = Lib.splitB ⟨#[10]⟩ 0 (Lib.countB s ⟨#[10]⟩) s := ⟨_, rfl⟩
  have hpl : pls.map (·.data.toList) = splitC 10 s.data.toList := by rw [hpls]; exact splitB_is 10 s
  have hpn : Lib.countB s ⟨#[10]⟩ + 1 = pls.length := by rw [splitB_len, ← hpl, List.length_map]
  have HSp : Hid (Calls Tryz.prog 20 #[.string s, .string ⟨#[10]⟩] W1 fun e w' => e = .returned (.slice (some ⟨w.heap.size + 2, 0, none⟩) pls.length pls.length) ∧ w' = W1.alloc (.cells (pls.map Value.string).toArray 9)) := by
    have := Tryz.strings_Split s ⟨#[10]⟩ mx W1 (by omega) hmx (Nat.le_refl 1)
    rw [hpn, ← hpls, hsz1] at this
    exact this
  have hplen : pls.length ≤ 1201 := by
    rw [← hpn, splitB_len]
    have h1 := split_len 10 s.data.toList
    have h2 : s.data.toList.length = s.size := by simp
    omega
  have HLn : Hid ((linesV s.data.toList).length = pls.length) := by
    show _ = _
    rw [linesV, List.length_map, ← hpl, List.length_map]
  have HLk : Hid (∀ (k : Nat) (p : ByteArray), pls[k]? = some p → (linesV s.data.toList)[k]? = some (trimV p.data.toList) ∧ p.size ≤ 1200) := fun k p hk => by
    have h1 : (splitC 10 s.data.toList)[k]? = some p.data.toList := by rw [← hpl, List.getElem?_map, hk]; rfl
    refine ⟨by rw [linesV, List.getElem?_map, h1]; rfl, ?_⟩
    have h2 := split_mem 10 _ _ (List.mem_of_getElem? h1)
    have h3 : p.data.toList.length = p.size := by simp
    have h4 : s.data.toList.length = s.size := by simp
    omega
  have HE : Hid (∀ w', Below w.heap.size w w' → Env w') := fun w' hb => he.below hb
  have HF : Hid (∀ w', Below w.heap.size w w' → FineT w') := fun w' hb => by
    have h0 := World.block_lt_of_cell? w _ hF.1
    exact ⟨(hb.cell (p := ⟨0, 0, none⟩) h0).trans hF.1, (hb.cell (p := ⟨0, 1, none⟩) h0).trans hF.2⟩
  have hI0 : RI w s.data.toList pls 0 [] [] [] (.slice none 0 0) (.slice none 0 0) (.slice none 0 0) (W1.alloc (.cells (pls.map Value.string).toArray 9)) := by
    have hm0 := World.ownsMap_made (w.alloc (.cells #[.int .i64 0, .int .i64 0] 25)) Tryz.prog 9 (plainElem (H := Unit) Tryz.prog 3)
    rw [← hW1] at hm0
    have hsz0 : (w.alloc (.cells #[.int .i64 0, .int .i64 0] 25)).heap.size = w.heap.size + 1 := by simp
    refine ⟨rfl, mat_nil, World.ownsRow_nil _ _ _ _, World.ownsRow_nil _ _ _ _, World.ownsRow_nil _ _ _ _, ?_, ?_, ?_, hB1.alloc (by omega) _⟩
    · have := World.ownsMap.alloc hm0 (.cells (pls.map Value.string).toArray 9)
      rw [hsz0] at this
      exact this
    · refine row_alloc ?_ _
      rw [hW1]
      exact row_alloc (heap_alloc_last w _) _
    · rw [← hsz1]; exact heap_alloc_last W1 _
  have HI0 : Hid (RI w s.data.toList pls 0 [] [] [] (.slice none 0 0) (.slice none 0 0) (.slice none 0 0) (W1.alloc (.cells (pls.map Value.string).toArray 9))) := hI0
  have HW1 : Hid (W1 = (w.alloc (.cells #[.int .i64 0, .int .i64 0] 25)).alloc (.map #[] 0)) := hW1
  clear hI0 he hF hB1 hsz1 hmx hpls hpl hpn hW1
  go_enter Tryz.func5, Tryz.ntmps5
  go_wp2_with (go_at_call 20; rw [← HW1.out]; refine HSp.out.mono ?_; rintro e w1 ⟨rfl, rfl⟩)
  clear hmm
  go_loopw [5, 6, 7, 23] (fun v5 v6 v7 i wr => ∃ (k n : Nat) (ds : Drafts) (ps : Places) (xs : List Dr) (q5 : Option Addr) (c5 : Nat), k ≤ pls.length ∧ i = .int .i64 k ∧ v5 = .slice q5 n c5 ∧ Hid (n = ds.length) ∧ Hid (RI w s.data.toList pls k ds ps xs (.slice q5 n c5) v6 v7 wr)) (fun _ _ _ i _ => pls.length - (intOf i).toNat)
  case atStart => exact ⟨0, 0, [], [], [], none, 0, Nat.zero_le _, rfl, rfl, rfl, HI0.out⟩
  case round =>
    obtain ⟨k, n, ds, ps, xs, q5, c5, hk, rfl, rfl, HN, HR⟩ := hrel
    by_cases hlt : k < pls.length
    · obtain ⟨p, hp⟩ : ∃ p, pls[k]? = some p := ⟨_, List.getElem?_eq_getElem hlt⟩
      obtain ⟨hl, hps⟩ := HLk.out k p hp
      have cP : wr.cell? ⟨w.heap.size + 2, k, none⟩ = some (.string p) := by
        rw [cell_of_row _ _ _ _ _ _ HR.out.sp]
        simp [hp]
      obtain ⟨t, ht⟩ : ∃ t : ByteArray, t = ⟨(trimV p.data.toList).toArray⟩ := ⟨_, rfl⟩
      have hts : t.data.toList = trimV p.data.toList := by rw [ht]
      have htz : t.size ≤ 1200 := by
        have h1 := trimV_len p.data.toList
        have h2 : t.size = t.data.toList.length := by simp
        have h3 : p.data.toList.length = p.size := by simp
        rw [h2, hts]
        omega
      have HTr : Hid (Calls Tryz.prog 21 #[.string p, .string ⟨#[32]⟩] wr fun e w' => e = .returned (.string t) ∧ RI w s.data.toList pls k ds ps xs (.slice q5 n c5) u6 u7 w') := by
        refine (trim_any p wr (by omega)).mono ?_
        rintro e w' ⟨rfl, nd, rfl⟩
        exact ⟨by rw [ht], HR.out.kept ⟨rfl, rfl, rfl, Nat.le_refl _, fun _ _ _ => rfl⟩⟩
      have HL : Hid ((linesV s.data.toList)[k]? = some t.data.toList) := by show _ = _; rw [hts]; exact hl
      have HLast : Hid (t.data.toList.getLast? ≠ some 32) := by
        show _ ≠ _
        rw [hts]
        exact trim_last _
      have HNk : Hid (n ≤ k) := by
        show _ ≤ _
        have hsl : s.data.toList.length = s.size := by simp
        have h1 := st_take s.data.toList (by omega) k (by rw [← HLn.out, linesV, List.length_map] at hlt; omega)
        rw [HN.out]
        exact (st_bounds k _ (upto_length _ _) ds ps (h1.trans HR.out.st)).1
      clear hp hl ht hts HR hps
      by_cases ht0 : t = ⟨#[]⟩
      · subst ht0
        go_wp2_with (go_at_call 21; refine HTr.out.mono ?_; rintro e w2 ⟨rfl, hri⟩; have HR2 : Hid (RI w s.data.toList pls k ds ps xs (.slice q5 n c5) u6 u7 w2) := hri; clear hri)
        exact ⟨⟨k + 1, n, ds, ps, xs, q5, c5, by omega, by go_num, rfl, HN, HR2.out.blank HL.out⟩, by simp [intOf]; omega⟩
      · have hte := ba_ne t ht0
        have ht1 : 0 < t.size := by
          rcases Nat.eq_zero_or_pos t.size with h | h
          · have h2 : t.data.toList = [] := List.length_eq_zero_iff.1 (by simpa using h)
            exact absurd (ba_inj h2) ht0
          · exact h
        have HT0 : Hid (t.data.toList ≠ []) := fun e => ht0 (ba_inj e)
        obtain ⟨c, hcl, hIdx⟩ := idx_last t ht1
        clear ht0
        have HResF : Hid (∀ W, RI w s.data.toList pls k ds ps xs (.slice q5 n c5) u6 u7 W → W.cell? ⟨w.heap.size, 0, none⟩ = some (.int .i64 0) ∧ W.cell? ⟨w.heap.size, 1, none⟩ = some (.int .i64 0) ∧ (∀ i, W.frozen? ⟨w.heap.size, i, none⟩ = false) ∧ w.heap.size < W.heap.size) := fun W h => by
          have hl := h.lt
          exact ⟨by rw [cell_of_row _ _ _ _ _ _ h.res]; rfl, by rw [cell_of_row _ _ _ _ _ _ h.res]; rfl, fun i => row_free h.res i, by omega⟩
        by_cases hc58 : c = 58
        · have hIdx2 : ∀ W : World, (Instr.index 9 (.string t) (.int .i64 ((t.size : Int) - 1))).run Tryz.prog W = .ok (.int .u8 58) W := fun W => by
            rw [hIdx W, hc58]; rfl
          have HC : Hid (t.data.toList.getLast? = some 58) := by show _ = _; rw [hcl, hc58]
          clear hIdx hcl hc58
          have hx : (t.extract 0 (t.size - 1)).data.toList = t.data.toList.dropLast := by
            rw [Lib.extract_from_zero, List.dropLast_eq_take]
            have e : t.data.toList.length = t.size := by simp
            rw [e]
          have hxs : (t.extract 0 (t.size - 1)).size ≤ 1200 := by
            have e : (t.extract 0 (t.size - 1)).size = (t.extract 0 (t.size - 1)).data.toList.length := by simp
            have e2 : t.data.toList.length = t.size := by simp
            rw [e, hx, List.length_dropLast]; omega
          have HPn : Hid (∀ w', Calls Tryz.prog 10 #[.string (t.extract 0 (t.size - 1))] w' fun e w'' => e = .returned (.bool (nameV t.data.toList.dropLast)) ∧ w'' = w') := fun w' => by
            have := place_doc (t.extract 0 (t.size - 1)) w' (by omega)
            rw [hx] at this
            exact this
          cases hnm : nameV t.data.toList.dropLast with
          | false =>
            rw [hnm] at HPn
            have HNm : Hid (nameV t.data.toList.dropLast = false) := hnm
            clear hnm hx hxs
            go_wp2_with (first
              | (go_at_call 21; refine HTr.out.mono ?_; rintro e w2 ⟨rfl, hri⟩; have HR2 : Hid (RI w s.data.toList pls k ds ps xs (.slice q5 n c5) u6 u7 w2) := hri; obtain ⟨g0, g1, g2, g3⟩ := HResF.out w2 hri; clear hri)
              | (go_at_call 10; refine (HPn.out _).mono ?_; rintro e w3 ⟨rfl, rfl⟩))
            refine bodyPost_ret (res5 _ _ w.heap.size (.int .i64 3) (.int .i64 (k : Int)) rfl (heap_setCell_same _ _ _ _ _ _ (heap_setCell_same _ _ _ _ _ _ HR2.out.res))) rfl ⟨?_, (HR2.out.low.setCell (p := ⟨w.heap.size, 0, none⟩) (Nat.le_refl _) _).setCell (p := ⟨w.heap.size, 1, none⟩) (Nat.le_refl _) _⟩
            rw [HR2.out.bad _ HL.out 3 (step_name HT0.out HC.out HNm.out)]
            rfl
          | true =>
            rw [hnm] at HPn
            have HNm : Hid (nameV t.data.toList.dropLast = true) := hnm
            have HLoo : Hid (∀ W, RI w s.data.toList pls k ds ps xs (.slice q5 n c5) u6 u7 W → ∃ i : Int, (Instr.lookup 53 (.map (some (w.heap.size + 1))) (.string (t.extract 0 (t.size - 1))) true).run Tryz.prog W = .ok (.tuple #[.int .i64 i, .bool (ps.lookup t.data.toList.dropLast).isSome]) W) := fun W h => by
              obtain ⟨i, h1, _⟩ := look_any h.pl (t.extract 0 (t.size - 1)) (by unfold maxLen; omega)
              rw [hx] at h1
              exact ⟨i, h1⟩
            cases hlk : (ps.lookup t.data.toList.dropLast).isSome with
            | true =>
              rw [hlk] at HLoo
              have HLk2 : Hid ((ps.lookup t.data.toList.dropLast).isSome = true) := hlk
              clear hnm hx hxs hlk
              go_wp2_with (first
                | (go_at_call 21; refine HTr.out.mono ?_; rintro e w2 ⟨rfl, hri⟩; have HR2 : Hid (RI w s.data.toList pls k ds ps xs (.slice q5 n c5) u6 u7 w2) := hri; obtain ⟨g0, g1, g2, g3⟩ := HResF.out w2 hri; obtain ⟨lv, hrun⟩ := HLoo.out w2 hri; clear hri)
                | (go_at_call 10; refine (HPn.out _).mono ?_; rintro e w3 ⟨rfl, rfl⟩))
              refine bodyPost_ret (res5 _ _ w.heap.size (.int .i64 9) (.int .i64 (k : Int)) rfl (heap_setCell_same _ _ _ _ _ _ (heap_setCell_same _ _ _ _ _ _ HR2.out.res))) rfl ⟨?_, (HR2.out.low.setCell (p := ⟨w.heap.size, 0, none⟩) (Nat.le_refl _) _).setCell (p := ⟨w.heap.size, 1, none⟩) (Nat.le_refl _) _⟩
              rw [HR2.out.bad _ HL.out 9 (step_twice HT0.out HC.out HNm.out HLk2.out)]
              rfl
            | false =>
              rw [hlk] at HLoo
              have HLk2 : Hid ((ps.lookup t.data.toList.dropLast).isSome = false) := hlk
              have HK : Hid (keyOf Tryz.prog 9 (.string (t.extract 0 (t.size - 1))) = some (.string t.data.toList.dropLast)) := by
                have := Go.WideMaps.keyOf_string_mk (P := Tryz.prog) (s := t.extract 0 (t.size - 1)) Tryz.underlying9 (by unfold maxLen; omega)
                rw [hx] at this
                exact this
              have hnk := HNk.out
              have HW : Hid ((Lit.int .i64 (n : Int)).wf = true) := WalkArith.wf_i64 (by omega)
              clear hnm hx hxs hlk
              go_wp2_with (first
                | (go_at_call 21; refine HTr.out.mono ?_; rintro e w2 ⟨rfl, hri⟩; have HR2 : Hid (RI w s.data.toList pls k ds ps xs (.slice q5 n c5) u6 u7 w2) := hri; obtain ⟨g0, g1, g2, g3⟩ := HResF.out w2 hri; obtain ⟨lv, hrun⟩ := HLoo.out w2 hri; clear hri)
                | (go_at_call 10; refine (HPn.out _).mono ?_; rintro e w3 ⟨rfl, rfl⟩)
                | (at_mapUpdate; refine wpList_mapUpdate_own _ rfl _ _ _ 53 rfl 9 3 (Maps.string_keyed Tryz.underlying9) Tryz.underlying53 (plainElem (H := Unit) Tryz.prog 3) (w.heap.size + 1) k (plD ps) rfl HR2.out.pl (by unfold maxLen; omega) _ _ _ rfl rfl HK.out _ [] (plainElem_int Tryz.underlying3 HW.out) ?_))
              intro w4 hown hgrow
              have HEnd : Hid (RI w s.data.toList pls (k + 1) ds ((t.data.toList.dropLast, ds.length) :: ps) xs (.slice q5 n c5) u6 u7 w4) := HR2.out.mark _ HL.out HT0.out HC.out HNm.out HLk2.out (by rw [← HN.out]; exact hown) hgrow
              clear hown hgrow
              go_wp2
              exact ⟨⟨k + 1, n, ds, _, xs, q5, c5, by omega, by go_num, rfl, HN, HEnd⟩, by simp [intOf]; omega⟩
        · have hcn : ((c.toNat : Int) == 58) = false := by
            have : c.toNat ≠ 58 := fun e => hc58 (UInt8.toNat_inj.1 e)
            simp; omega
          have HC : Hid (t.data.toList.getLast? ≠ some 58) := by show _ ≠ _; rw [hcl]; intro e; injection e with e; exact hc58 e
          clear hc58 hcl
          generalize (c.toNat : Int) = lc at *
          cases hrv : readV t.data.toList with
          | none =>
            have HRd : Hid (∀ w2, RI w s.data.toList pls k ds ps xs (.slice q5 n c5) u6 u7 w2 → Calls Tryz.prog 22 #[.string t] w2 fun e w' => (∃ o d a b n : Int, ∃ t : ByteArray, e = .returned (.tuple #[instV o d a b n, .string t, .bool false])) ∧ RI w s.data.toList pls k ds ps xs (.slice q5 n c5) u6 u7 w') := fun w2 h => by
              have := readdoc t w2 (HE.out w2 h.low) htz HLast.out
              rw [hrv] at this
              exact this.mono fun e w' ⟨a, b⟩ => ⟨a, h.below b⟩
            have HNo : Hid (readV t.data.toList = none) := hrv
            clear hrv
            go_wp2_with (first
              | (go_at_call 21; refine HTr.out.mono ?_; rintro e w2 ⟨rfl, hri⟩; have HR2 : Hid (RI w s.data.toList pls k ds ps xs (.slice q5 n c5) u6 u7 w2) := hri; clear hri)
              | (go_at_call 22; refine (HRd.out _ HR2.out).mono ?_; rintro e w3 ⟨⟨o1, d1, a1, b1, n1, t1, rfl⟩, hri⟩; have HR3 : Hid (RI w s.data.toList pls k ds ps xs (.slice q5 n c5) u6 u7 w3) := hri; obtain ⟨g0, g1, g2, g3⟩ := HResF.out w3 hri; clear hri))
            refine bodyPost_ret (res5 _ _ w.heap.size (.int .i64 3) (.int .i64 (k : Int)) rfl (row_alloc (heap_setCell_same _ _ _ _ _ _ (heap_setCell_same _ _ _ _ _ _ HR3.out.res)) _)) rfl ⟨?_, ((HR3.out.low.setCell (p := ⟨w.heap.size, 0, none⟩) (Nat.le_refl _) _).setCell (p := ⟨w.heap.size, 1, none⟩) (Nat.le_refl _) _).alloc (by simp; omega) _⟩
            rw [HR3.out.bad _ HL.out 3 (step_form HT0.out HC.out HNo.out)]
            rfl
          | some dd =>
            have HRd : Hid (∀ w2, RI w s.data.toList pls k ds ps xs (.slice q5 n c5) u6 u7 w2 → Calls Tryz.prog 22 #[.string t] w2 fun e w' => (∃ N : Int, e = .returned (.tuple #[instV dd.o dd.d dd.a dd.b N, str dd.pl, .bool true]) ∧ (dd.pl = [] → N = dd.n)) ∧ RI w s.data.toList pls k ds ps xs (.slice q5 n c5) u6 u7 w') := fun w2 h => by
              have := readdoc t w2 (HE.out w2 h.low) htz HLast.out
              rw [hrv] at this
              exact this.mono fun e w' ⟨a, b⟩ => ⟨a, h.below b⟩
            have HYes : Hid (readV t.data.toList = some dd) := hrv
            clear hrv
            obtain ⟨y, hy⟩ : ∃ y : ByteArray, y = ⟨dd.pl.toArray⟩ := ⟨_, rfl⟩
            have hy' : str dd.pl = .string y := by rw [hy]
            rw [hy'] at HRd
            have HY : Hid (str dd.pl = .string y) := hy'
            have HNB : Hid (n ≤ k) := HNk
            clear hy hy'
            go_wp2_with (first
              | (go_at_call 21; refine HTr.out.mono ?_; rintro e w2 ⟨rfl, hri⟩; have HR2 : Hid (RI w s.data.toList pls k ds ps xs (.slice q5 n c5) u6 u7 w2) := hri; clear hri)
              | (go_at_call 22; fail))
            refine (HRd.out _ HR2.out).mono ?_
            rintro e w3 ⟨⟨N, rfl, hNN⟩, hri⟩
            have HR3 : Hid (RI w s.data.toList pls k ds ps xs (.slice q5 n c5) u6 u7 w3) := hri
            have HNN : Hid (dd.pl = [] → N = dd.n) := hNN
            clear hNN
            obtain ⟨wB, hwB⟩ : ∃ wB, wB = (w3.alloc (.cells #[.int .i64 dd.o, .int .i64 dd.d, .int .i64 dd.a, .int .i64 dd.b, .int .i64 N] 39)).alloc (.cells #[.int .i64 dd.o, .int .i64 dd.d, .int .i64 dd.a, .int .i64 dd.b, .int .i64 N] 39) := ⟨_, rfl⟩
            have hRB : RI w s.data.toList pls k ds ps xs (.slice q5 n c5) u6 u7 wB := by
              rw [hwB]
              exact (hri.kept (World.grownBy_alloc _ _ none)).kept (World.grownBy_alloc _ _ none)
            have hszB : wB.heap.size = w3.heap.size + 1 + 1 := by rw [hwB]; simp
            have HRB : Hid (RI w s.data.toList pls k ds ps xs (.slice q5 n c5) u6 u7 wB) := hRB
            have HW5 : Hid (((w3.alloc (.cells #[.int .i64 dd.o, .int .i64 dd.d, .int .i64 dd.a, .int .i64 dd.b, .int .i64 N] 39)).alloc (.cells #[.int .i64 dd.o, .int .i64 dd.d, .int .i64 dd.a, .int .i64 dd.b, .int .i64 N] 39)).ownsRow (w.heap.size + 3) 39 5 (.slice q5 n c5) n (ins xs)) := by
              have := hRB.r5
              rw [hwB, ← HN.out] at this
              exact this
            have HN5 : Hid (∀ (j : Nat) (x : Value), ([.int .i64 dd.o, .int .i64 dd.d, .int .i64 dd.a, .int .i64 dd.b, .int .i64 N] : List Value)[j]? = some x → ((w3.alloc (.cells #[.int .i64 dd.o, .int .i64 dd.d, .int .i64 dd.a, .int .i64 dd.b, .int .i64 N] 39)).alloc (.cells #[.int .i64 dd.o, .int .i64 dd.d, .int .i64 dd.a, .int .i64 dd.b, .int .i64 N] 39)).cell? ((⟨w3.heap.size + 1, 0, none⟩ : Addr).add j) = some x) := World.news_of_block (cs := #[.int .i64 dd.o, .int .i64 dd.d, .int .i64 dd.a, .int .i64 dd.b, .int .i64 N]) (t := 39) (fr := (0, 0)) (by
              have := heap_alloc_last (w3.alloc (.cells #[.int .i64 dd.o, .int .i64 dd.d, .int .i64 dd.a, .int .i64 dd.b, .int .i64 N] 39)) (.cells #[.int .i64 dd.o, .int .i64 dd.d, .int .i64 dd.a, .int .i64 dd.b, .int .i64 N] 39)
              simpa using this)
            have H15 : Hid (∀ u ∈ ([.int .i64 dd.o, .int .i64 dd.d, .int .i64 dd.a, .int .i64 dd.b, .int .i64 N] : List Value), u.oneCell' = true) := fun u hu => by simp at hu; rcases hu with rfl | rfl | rfl | rfl | rfl <;> rfl
            have HZ5 : Hid (w.heap.size + 3 ≤ ((w3.alloc (.cells #[.int .i64 dd.o, .int .i64 dd.d, .int .i64 dd.a, .int .i64 dd.b, .int .i64 N] 39)).alloc (.cells #[.int .i64 dd.o, .int .i64 dd.d, .int .i64 dd.a, .int .i64 dd.b, .int .i64 N] 39)).heap.size) := by rw [← hwB]; exact hRB.lt
            have HwB : Hid (wB = (w3.alloc (.cells #[.int .i64 dd.o, .int .i64 dd.d, .int .i64 dd.a, .int .i64 dd.b, .int .i64 N] 39)).alloc (.cells #[.int .i64 dd.o, .int .i64 dd.d, .int .i64 dd.a, .int .i64 dd.b, .int .i64 N] 39)) := hwB
            have hnk : n ≤ 1201 := by have := HNB.out; omega
            clear hri hRB hszB hwB
            go_wp2_with (at_builtin; refine wpList_append_own _ rfl _ _ 22 rfl (w.heap.size + 3) 39 i5 _ 5 40 Tryz.underlying22 hi5 hz5 hs5 hb5 rfl (by decide) _ n _ rfl HW5.out ⟨w3.heap.size + 1, 0, none⟩ 1 1 [.int .i64 dd.o, .int .i64 dd.d, .int .i64 dd.a, .int .i64 dd.b, .int .i64 N] rfl rfl HN5.out H15.out (by unfold maxLen; omega) (by omega) HZ5.out ?_)
            intro y5 w4 hown4 hgrow4 _
            rw [← HwB.out] at hgrow4
            obtain ⟨q5', c5', rfl⟩ := own_slice hown4
            have hB4 : Below (w.heap.size + 3) w3 w4 := by
              have h0 : Below (w.heap.size + 3) w3 wB := by
                rw [HwB.out]
                have := HR3.out.lt
                exact ((Below.refl _ _).alloc this _).alloc (by simp; omega) _
              exact h0.grown hgrow4 HRB.out.lt (fun j ej => (HRB.out.r5.lt j ej).1)
            have h64 : w4.ownsRow (w.heap.size + 3) 9 1 u6 n (ds.map fun x => str x.1.pl) := by
              have := HRB.out.r6.kept hgrow4 (row_ne HRB.out.r6 HRB.out.r5 (by decide))
              rw [← HN.out] at this
              exact this
            have h74 : w4.ownsRow (w.heap.size + 3) 3 1 u7 n (ds.map fun x => .int .i64 (x.2 : Int)) := by
              have := HRB.out.r7.kept hgrow4 (row_ne HRB.out.r7 HRB.out.r5 (by decide))
              rw [← HN.out] at this
              exact this
            have hz4 : w.heap.size + 3 ≤ w4.heap.size := by have := hB4.size; have := HR3.out.lt; omega
            have HB4 : Hid (Below (w.heap.size + 3) w3 (w4.alloc (.cells #[.string y] 9))) := hB4.alloc hz4 _
            have H54 : Hid ((w4.alloc (.cells #[.string y] 9)).ownsRow (w.heap.size + 3) 39 5 (.slice q5' (n + 1) c5') (n + 1) (ins xs ++ [.int .i64 dd.o, .int .i64 dd.d, .int .i64 dd.a, .int .i64 dd.b, .int .i64 N])) := hown4.alloc _
            have H64 : Hid ((w4.alloc (.cells #[.string y] 9)).ownsRow (w.heap.size + 3) 9 1 u6 n (ds.map fun x => str x.1.pl)) := h64.alloc _
            have H74 : Hid ((w4.alloc (.cells #[.string y] 9)).ownsRow (w.heap.size + 3) 3 1 u7 n (ds.map fun x => .int .i64 (x.2 : Int))) := h74.alloc _
            have HN6 : Hid (∀ (j : Nat) (x : Value), ([.string y] : List Value)[j]? = some x → (w4.alloc (.cells #[.string y] 9)).cell? ((⟨w4.heap.size, 0, none⟩ : Addr).add j) = some x) := World.news_of_block (cs := #[.string y]) (t := 9) (fr := (0, 0)) (heap_alloc_last w4 _)
            have H16 : Hid (∀ u ∈ ([.string y] : List Value), u.oneCell' = true) := fun u hu => by simp at hu; subst hu; rfl
            have HZ6 : Hid (w.heap.size + 3 ≤ (w4.alloc (.cells #[.string y] 9)).heap.size) := by show _ ≤ _; simp; omega
            clear hown4 hgrow4 h64 h74 hB4 HW5 HN5 H15 HZ5
            go_wp2_with (at_builtin; refine wpList_append_own _ rfl _ _ 54 rfl (w.heap.size + 3) 9 i6 _ 1 16 Tryz.underlying54 hi6 hz6 hs6 hb6 rfl (by decide) _ n _ rfl H64.out ⟨w4.heap.size, 0, none⟩ 1 1 [.string y] rfl rfl HN6.out H16.out (by unfold maxLen; omega) (by omega) HZ6.out ?_)
            intro y6 w5 hown5 hgrow5 _
            have h55 := H54.out.kept hgrow5 (row_ne H54.out H64.out (by decide))
            have h75 := H74.out.kept hgrow5 (row_ne H74.out H64.out (by decide))
            have hB5 := HB4.out.grown hgrow5 HZ6.out (fun j ej => (H64.out.lt j ej).1)
            have hz5' : w.heap.size + 3 ≤ w5.heap.size := by have := hgrow5.size; have := HZ6.out; omega
            have HB5 : Hid (Below (w.heap.size + 3) w3 (w5.alloc (.cells #[.int .i64 (k : Int)] 3))) := hB5.alloc hz5' _
            have H55 : Hid ((w5.alloc (.cells #[.int .i64 (k : Int)] 3)).ownsRow (w.heap.size + 3) 39 5 (.slice q5' (n + 1) c5') (n + 1) (ins xs ++ [.int .i64 dd.o, .int .i64 dd.d, .int .i64 dd.a, .int .i64 dd.b, .int .i64 N])) := h55.alloc _
            have H65 : Hid ((w5.alloc (.cells #[.int .i64 (k : Int)] 3)).ownsRow (w.heap.size + 3) 9 1 y6 (n + 1) ((ds.map fun x => str x.1.pl) ++ [.string y])) := hown5.alloc _
            have H75 : Hid ((w5.alloc (.cells #[.int .i64 (k : Int)] 3)).ownsRow (w.heap.size + 3) 3 1 u7 n (ds.map fun x => .int .i64 (x.2 : Int))) := h75.alloc _
            have HN7 : Hid (∀ (j : Nat) (x : Value), ([.int .i64 (k : Int)] : List Value)[j]? = some x → (w5.alloc (.cells #[.int .i64 (k : Int)] 3)).cell? ((⟨w5.heap.size, 0, none⟩ : Addr).add j) = some x) := World.news_of_block (cs := #[.int .i64 (k : Int)]) (t := 3) (fr := (0, 0)) (heap_alloc_last w5 _)
            have H17 : Hid (∀ u ∈ ([.int .i64 (k : Int)] : List Value), u.oneCell' = true) := fun u hu => by simp at hu; subst hu; rfl
            have HZ7 : Hid (w.heap.size + 3 ≤ (w5.alloc (.cells #[.int .i64 (k : Int)] 3)).heap.size) := by show _ ≤ _; simp; omega
            clear hown5 hgrow5 h55 h75 hB5 HB4 H54 H64 H74 HN6 H16 HZ6
            go_wp2_with (at_builtin; refine wpList_append_own _ rfl _ _ 55 rfl (w.heap.size + 3) 3 i7 _ 1 8 Tryz.underlying55 hi7 hz7 hs7 hb7 rfl (by decide) _ n _ rfl H75.out ⟨w5.heap.size, 0, none⟩ 1 1 [.int .i64 (k : Int)] rfl rfl HN7.out H17.out (by unfold maxLen; omega) (by omega) HZ7.out ?_)
            intro y7 w6 hown6 hgrow6 _
            have h56 := H55.out.kept hgrow6 (row_ne H55.out H75.out (by decide))
            have h66 := H65.out.kept hgrow6 (row_ne H65.out H75.out (by decide))
            have hB6 := HB5.out.grown hgrow6 HZ7.out (fun j ej => (H75.out.lt j ej).1)
            rw [HN.out] at h56 h66 hown6
            rw [← HY.out] at h66
            have HEnd : Hid (RI w s.data.toList pls (k + 1) (ds ++ [(dd, k)]) ps (xs ++ [⟨dd.o, dd.d, dd.a, dd.b, N, []⟩]) (.slice q5' (n + 1) c5') y6 y7 w6) := by
              have := HR3.out.add _ HL.out HT0.out HC.out dd HYes.out N HNN.out h56 h66 hown6 hB6
              rw [← HN.out] at this
              exact this
            have HN' : Hid (n + 1 = (ds ++ [(dd, k)]).length) := by show _ = _; rw [HN.out]; simp
            clear h56 h66 hown6 hgrow6 hB6
            go_wp2
            exact ⟨⟨k + 1, n + 1, _, ps, _, q5', c5', by omega, by go_num, rfl, HN', HEnd⟩, by simp [intOf]; omega⟩
    · obtain rfl : k = pls.length := by omega
      have HAsm : Hid (asmV rtD s.data.toList = finV rtD ps 0 ds) := asm_fin _ ds ps (by rw [HLn.out]; exact HR.out.st)
      obtain ⟨q6, c6, hq6⟩ := own_slice HR.out.r6
      obtain ⟨q7, c7, hq7⟩ := own_slice HR.out.r7
      rw [← HN.out] at hq6 hq7
      subst hq6
      subst hq7
      have HK0 : Hid (RK w ds ps pls.length xs (.slice q5 n c5) (.slice q6 n c6) (.slice q7 n c7) wr) := HR.out.rk
      have HMat : Hid (Mat xs ds) := HR.out.mat
      have hsl : s.data.toList.length = s.size := by simp
      obtain ⟨hd1, hd2, hd3⟩ := st_bounds pls.length _ (upto_length _ _) ds ps ((st_take s.data.toList (by omega) pls.length (by rw [← HLn.out, linesV, List.length_map]; exact Nat.le_refl _)).trans HR.out.st)
      have HD2 : Hid (∀ x ∈ ps, x.2 ≤ pls.length) := hd2
      have HD3 : Hid (∀ x ∈ ds, x.1.pl.length ≤ 24) := hd3
      have hnn : n ≤ pls.length := by rw [HN.out]; exact hd1
      obtain ⟨wo, hwo⟩ : ∃ wo, wo = wr := ⟨_, rfl⟩
      rw [← hwo] at HK0 ⊢
      clear hwo HR hd1 hd2 hd3 hsl hlt hk HSp HLk HI0 HW1
      go_wp2_with fail
      go_loopw [88] (fun i wr => ∃ (j : Nat) (out : List Dr), j ≤ n ∧ i = .int .i64 j ∧ Hid (finV rtD ps 0 (ds.take j) = .ok out) ∧ Hid (RK w ds ps pls.length (out ++ xs.drop j) (.slice q5 n c5) (.slice q6 n c6) (.slice q7 n c7) wr)) (fun i _ => n - (intOf i).toNat)
      case atStart => exact ⟨0, [], Nat.zero_le _, rfl, rfl, HK0.out⟩
      case round =>
        obtain ⟨j, out, hj, rfl, HFi, HRK⟩ := hrel
        by_cases hlt : j < n
        · have hn0 : 0 < ds.length := by rw [← HN.out]; omega
          have hr5 := HRK.out.r5
          have hr6 := HRK.out.r6
          have hr7 := HRK.out.r7
          rw [← HN.out] at hr5 hr6 hr7 hn0
          obtain ⟨g5, c5', e5, hg5, hg5'⟩ := own_some hr5 hn0
          obtain ⟨g6, c6', e6, hg6, hg6'⟩ := own_some hr6 hn0
          obtain ⟨g7, c7', e7, hg7, hg7'⟩ := own_some hr7 hn0
          injection e5 with e5 _ e5c
          injection e6 with e6 _ e6c
          injection e7 with e7 _ e7c
          subst e5 e6 e7 e5c e6c e7c
          obtain ⟨x, hx⟩ : ∃ x, ds[j]? = some x := ⟨_, List.getElem?_eq_getElem (by rw [← HN.out]; exact hlt)⟩
          obtain ⟨⟨o1, d1, a1, b1, n1, pl1⟩, ln⟩ := x
          obtain ⟨N, hN1, hN2⟩ := HMat.out.2 j _ _ hx
          have HOl : Hid (out.length = j) := by
            show _ = _
            rw [fin_len ps _ 0 out HFi.out, List.length_take, ← HN.out]
            omega
          have hdrop : xs.drop j = ⟨o1, d1, a1, b1, N, []⟩ :: xs.drop (j + 1) := by
            obtain ⟨hh, he⟩ := List.getElem?_eq_some_iff.1 hN1
            rw [← List.getElem_cons_drop hh, he]
          rw [hdrop] at HRK hr5
          obtain ⟨s0, s1, s2, s3, s4⟩ := five_of hr5 j ⟨o1, d1, a1, b1, N, []⟩ (by rw [List.getElem?_append_right (by rw [HOl.out]; exact Nat.le_refl _), HOl.out]; simp)
          simp only at s0 s1 s2 s3 s4 hN2
          have s6 : wr.cell? ⟨g6, j, none⟩ = some (str pl1) := row_cell hr6 j _ (by rw [List.getElem?_map, hx]; rfl)
          have s7 : wr.cell? ⟨g7, j, none⟩ = some (.int .i64 (ln : Int)) := row_cell hr7 j _ (by rw [List.getElem?_map, hx]; rfl)
          have f4 := hr5.frozenAt (j * 5 + 4)
          obtain ⟨y, hy⟩ : ∃ y : ByteArray, (⟨pl1.toArray⟩ : ByteArray) = y := ⟨_, rfl⟩
          have s6' : wr.cell? ⟨g6, j, none⟩ = some (.string y) := by rw [s6, ← hy]
          have hpl24 : pl1.length ≤ 24 := HD3.out _ (List.mem_of_getElem? hx)
          have hyl : y.data.toList = pl1 := by rw [← hy]
          have HResK : Hid (∀ W zs, RK w ds ps pls.length zs (.slice (some ⟨g5, 0, none⟩) n c5) (.slice (some ⟨g6, 0, none⟩) n c6) (.slice (some ⟨g7, 0, none⟩) n c7) W → W.cell? ⟨w.heap.size, 0, none⟩ = some (.int .i64 0) ∧ W.cell? ⟨w.heap.size, 1, none⟩ = some (.int .i64 0) ∧ (∀ i, W.frozen? ⟨w.heap.size, i, none⟩ = false) ∧ w.heap.size < W.heap.size ∧ W.cell? ⟨g7, j, none⟩ = some (.int .i64 (ln : Int))) := fun W zs h => by
            have hl := h.lt
            have h7 := h.r7
            rw [← HN.out] at h7
            exact ⟨by rw [cell_of_row _ _ _ _ _ _ h.res]; rfl, by rw [cell_of_row _ _ _ _ _ _ h.res]; rfl, fun i => row_free h.res i, by omega, row_cell h7 j _ (by rw [List.getElem?_map, hx]; rfl)⟩
          have HRt : Hid (∀ M W, Calls Tryz.prog 23 #[instV o1 d1 a1 b1 M] W fun e w' => e = .returned (.bool (Rt o1 d1 a1 b1 M)) ∧ Below W.heap.size W w') := fun M W => right_doc o1 d1 a1 b1 M W
          have HX : Hid (ds[j]? = some (⟨o1, d1, a1, b1, n1, pl1⟩, ln)) := hx
          have hj1200 : j ≤ 1201 := by omega
          clear s6 hr5 hr6 hr7 hx hN1 hn0 hdrop hy HK0
          by_cases hpl : pl1 = []
          · have hNn := hN2 hpl
            subst hNn
            subst hpl
            have hye : y = ⟨#[]⟩ := ba_inj hyl
            subst hye
            clear hyl hpl24 hN2
            cases hrt : Rt o1 d1 a1 b1 N with
            | true =>
              have HDr : Hid (draftV ps (0 + j) (⟨o1, d1, a1, b1, N, []⟩, ln) = .ok ⟨o1, d1, a1, b1, N, []⟩) := by
                show _ = _
                rw [draftV, if_pos rfl, if_pos (by exact hrt)]
              have HRt2 : Hid (∀ W, Calls Tryz.prog 23 #[instV o1 d1 a1 b1 N] W fun e w' => e = .returned (.bool true) ∧ Below W.heap.size W w') := fun W => by
                have := HRt.out N W; rw [hrt] at this; exact this
              clear hrt
              go_wp2_with (go_at_call 23; refine (HRt2.out _).mono ?_; rintro e w2 ⟨rfl, hb⟩; have HB : Hid (Below wr.heap.size wr w2) := hb; clear hb)
              refine ⟨⟨j + 1, _, by omega, by go_num, fin_snoc ps ds 0 j _ out _ HFi.out HX.out HDr.out, ?_⟩, by simp [intOf]; omega⟩
              rw [List.append_assoc]
              exact HRK.out.kept HB.out
            | false =>
              have HDr : Hid (draftV ps (0 + j) (⟨o1, d1, a1, b1, N, []⟩, ln) = .error (2, ln)) := by
                show _ = _
                rw [draftV, if_pos rfl, if_neg (by show ¬ Rt o1 d1 a1 b1 N = true; rw [hrt]; decide)]
              have HRt2 : Hid (∀ W, Calls Tryz.prog 23 #[instV o1 d1 a1 b1 N] W fun e w' => e = .returned (.bool false) ∧ Below W.heap.size W w') := fun W => by
                have := HRt.out N W; rw [hrt] at this; exact this
              clear hrt
              go_wp2_with (go_at_call 23; refine (HRt2.out _).mono ?_; rintro e w2 ⟨rfl, hb⟩; have HB : Hid (Below wr.heap.size wr w2) := hb; obtain ⟨g0, g1, g2, g3, g4⟩ := HResK.out w2 _ (HRK.out.kept hb); clear hb)
              go_region
              all_goals go_wp2
              all_goals
                refine bodyPost_ret (res5 _ _ w.heap.size (.int .i64 2) (.int .i64 (ln : Int)) rfl (heap_setCell_same _ _ _ _ _ _ (heap_setCell_same _ _ _ _ _ _ (HRK.out.kept HB.out).res))) rfl ⟨?_, below_drew (((HRK.out.kept HB.out).low.setCell (p := ⟨w.heap.size, 0, none⟩) (Nat.le_refl _) _).setCell (p := ⟨w.heap.size, 1, none⟩) (Nat.le_refl _) _)⟩
                rw [HAsm.out, fin_bad ps ds 0 j _ out _ HFi.out HX.out HDr.out]
                rfl
          · have hye := ba_ne y (fun e => hpl (by rw [← hyl, e]))
            obtain ⟨i, hrun, hi⟩ := look_any HRK.out.pl y (by
              have e : y.size = y.data.toList.length := by simp
              rw [e, hyl]; unfold maxLen; omega)
            rw [hyl] at hrun hi
            cases hlk : ps.lookup pl1 with
            | none =>
              rw [hlk] at hrun
              have HDr : Hid (draftV ps (0 + j) (⟨o1, d1, a1, b1, n1, pl1⟩, ln) = .error (7, ln)) := by
                show _ = _
                rw [draftV, if_neg hpl]
                simp only
                rw [hlk]
              obtain ⟨g0, g1, g2, g3, g4⟩ := HResK.out wr _ HRK.out
              clear hlk hi hpl hyl hN2
              go_wp2_with fail
              go_region
              all_goals go_wp2
              all_goals
                refine bodyPost_ret (res5 _ _ w.heap.size (.int .i64 7) (.int .i64 (ln : Int)) rfl (heap_setCell_same _ _ _ _ _ _ (heap_setCell_same _ _ _ _ _ _ HRK.out.res))) rfl ⟨?_, below_drew ((HRK.out.low.setCell (p := ⟨w.heap.size, 0, none⟩) (Nat.le_refl _) _).setCell (p := ⟨w.heap.size, 1, none⟩) (Nat.le_refl _) _)⟩
                rw [HAsm.out, fin_bad ps ds 0 j _ out _ HFi.out HX.out HDr.out]
                rfl
            | some jj =>
              rw [hlk] at hrun
              have hii := hi jj hlk
              subst hii
              have hjj : jj ≤ 1201 := by
                obtain ⟨z, hz⟩ := lookup_mem _ _ _ hlk
                have h2 : jj ≤ pls.length := HD2.out (z, jj) hz
                omega
              have HKS : Hid (RK w ds ps pls.length (out ++ ⟨o1, d1, a1, b1, 4 * (jj : Int) - 4 * (j : Int), []⟩ :: xs.drop (j + 1)) (.slice (some ⟨g5, 0, none⟩) n c5) (.slice (some ⟨g6, 0, none⟩) n c6) (.slice (some ⟨g7, 0, none⟩) n c7) (wr.setCell ⟨g5, j * 5 + 4, none⟩ (.int .i64 (4 * (jj : Int) - 4 * (j : Int))))) := by
                have := HRK.out.stored HN.out (4 * (jj : Int) - 4 * (j : Int))
                rw [HOl.out] at this
                exact this
              have HDr : Hid (draftV ps (0 + j) (⟨o1, d1, a1, b1, n1, pl1⟩, ln) = if Rt o1 d1 a1 b1 (4 * (jj : Int) - 4 * (j : Int)) = true then .ok ⟨o1, d1, a1, b1, 4 * (jj : Int) - 4 * (j : Int), []⟩ else .error (2, ln)) := by
                show _ = _
                rw [draftV, if_neg hpl]
                simp only
                rw [hlk]
                simp only
                rw [show 4 * ((jj : Int) - ((0 + j : Nat) : Int)) = 4 * (jj : Int) - 4 * (j : Int) by omega]
                rfl
              clear hi hyl hN2
              cases hrt : Rt o1 d1 a1 b1 (4 * (jj : Int) - 4 * (j : Int)) with
              | true =>
                have HDr2 : Hid (draftV ps (0 + j) (⟨o1, d1, a1, b1, n1, pl1⟩, ln) = .ok ⟨o1, d1, a1, b1, 4 * (jj : Int) - 4 * (j : Int), []⟩) := by show _ = _; rw [HDr.out, if_pos hrt]
                have HRt2 : Hid (∀ W, Calls Tryz.prog 23 #[instV o1 d1 a1 b1 (4 * (jj : Int) - 4 * (j : Int))] W fun e w' => e = .returned (.bool true) ∧ Below W.heap.size W w') := fun W => by
                  have := HRt.out (4 * (jj : Int) - 4 * (j : Int)) W; rw [hrt] at this; exact this
                clear hrt hlk hpl
                go_wp2_with (go_at_call 23; refine (HRt2.out _).mono ?_; rintro e w2 ⟨rfl, hb⟩; have HKE := HKS.out.kept hb; have HKE : Hid _ := HKE; clear hb)
                refine ⟨⟨j + 1, _, by omega, by go_num, fin_snoc ps ds 0 j _ out _ HFi.out HX.out HDr2.out, ?_⟩, by simp [intOf]; omega⟩
                rw [List.append_assoc]
                exact HKE.out
              | false =>
                have HDr2 : Hid (draftV ps (0 + j) (⟨o1, d1, a1, b1, n1, pl1⟩, ln) = .error (2, ln)) := by show _ = _; rw [HDr.out, if_neg (by rw [hrt]; decide)]
                have HRt2 : Hid (∀ W, Calls Tryz.prog 23 #[instV o1 d1 a1 b1 (4 * (jj : Int) - 4 * (j : Int))] W fun e w' => e = .returned (.bool false) ∧ Below W.heap.size W w') := fun W => by
                  have := HRt.out (4 * (jj : Int) - 4 * (j : Int)) W; rw [hrt] at this; exact this
                clear hrt hlk hpl
                go_wp2_with (go_at_call 23; refine (HRt2.out _).mono ?_; rintro e w2 ⟨rfl, hb⟩; have HKE := HKS.out.kept hb; obtain ⟨g0, g1, g2, g3, g4⟩ := HResK.out w2 _ HKE; have HKE : Hid _ := HKE; clear hb)
                go_region
                all_goals go_wp2
                all_goals
                  refine bodyPost_ret (res5 _ _ w.heap.size (.int .i64 2) (.int .i64 (ln : Int)) rfl (heap_setCell_same _ _ _ _ _ _ (heap_setCell_same _ _ _ _ _ _ HKE.out.res))) rfl ⟨?_, below_drew ((HKE.out.low.setCell (p := ⟨w.heap.size, 0, none⟩) (Nat.le_refl _) _).setCell (p := ⟨w.heap.size, 1, none⟩) (Nat.le_refl _) _)⟩
                  rw [HAsm.out, fin_bad ps ds 0 j _ out _ HFi.out HX.out HDr2.out]
                  rfl
        · obtain rfl : j = n := by omega
          obtain ⟨F0, F1⟩ := HF.out _ HRK.out.low
          have g0 : wr.cell? ⟨w.heap.size, 0, none⟩ = some (.int .i64 0) := by rw [cell_of_row _ _ _ _ _ _ HRK.out.res]; rfl
          have g1 : wr.cell? ⟨w.heap.size, 1, none⟩ = some (.int .i64 0) := by rw [cell_of_row _ _ _ _ _ _ HRK.out.res]; rfl
          have g2 := row_free HRK.out.res 0
          have g3 := row_free HRK.out.res 1
          go_wp2_with fail
          go_region
          all_goals go_wp2
          all_goals
            refine bodyPost_ret (res5 _ _ w.heap.size (.int .i64 0) (.int .i64 (-1)) rfl (heap_setCell_same _ _ _ _ _ _ (heap_setCell_same _ _ _ _ _ _ HRK.out.res))) rfl ⟨?_, below_drew ((HRK.out.low.setCell (p := ⟨w.heap.size, 0, none⟩) (Nat.le_refl _) _).setCell (p := ⟨w.heap.size, 1, none⟩) (Nat.le_refl _) _)⟩
            have hf := HFi.out
            rw [List.take_of_length_le (by rw [← HN.out]; exact Nat.le_refl _)] at hf
            have hl : out.length = ds.length := fin_len ps ds 0 out hf
            have h5 := HRK.out.r5
            rw [List.drop_of_length_le (by rw [HMat.out.1, HN.out]; exact Nat.le_refl _), List.append_nil, ← hl] at h5
            rw [HAsm.out, hf]
            exact ⟨_, rfl, row_base (ownsRow_setCell_below (ownsRow_setCell_below h5 (show w.heap.size < _ by omega) _) (show w.heap.size < _ by omega) _) (by omega)⟩
end Go.Proofs.YtjjjdplgdlaihaaGreatDoor
