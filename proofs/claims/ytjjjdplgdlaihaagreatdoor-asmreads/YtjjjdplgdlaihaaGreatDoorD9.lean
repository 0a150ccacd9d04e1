/- ReadInst, letter by letter. -/
import Derived.Test.YtjjjdplgdlaihaaGreatDoorD9B
import Derived.Test.YtjjjdplgdlaihaaGreatDoorD9C
import Derived.Test.YtjjjdplgdlaihaaGreatDoorD9D
import Derived.Test.YtjjjdplgdlaihaaGreatDoorD9E
namespace Go.Proofs.YtjjjdplgdlaihaaGreatDoor
set_option linter.unusedVariables false
set_option linter.unusedSimpArgs false
open Go Go.RowKit
set_option maxRecDepth 100000 in
set_option maxHeartbeats 8000000 in
theorem readdoc_blank (s : ByteArray) (w : World) (he : Env w) (hs : s.size ≤ 1200) (kk : Nat) (hi : Lib.indexByte s.data.toList 32 = kk) (hl : s.data.toList.getLast? ≠ some 32) :
    Calls Tryz.prog 22 #[.string s] w fun e w' => RdOut (readV s.data.toList) e ∧ Below w.heap.size w w' := by
  have hkk := ix_lt 32 _ _ hi
  have hlen : s.data.toList.length = s.size := by simp
  obtain ⟨hr1, hr2⟩ := rest_is _ _ hi hl
  have HIW : Hid (∀ A : Obj, Calls Tryz.prog 53 #[.string s, .int .u8 32] (w.alloc A) fun e w' => e = .returned (.int .i64 kk) ∧ w' = w.alloc A) := fun A => by
    have := Tryz.strings_IndexByte s 32 (w.alloc A)
    rw [show (32 : Int).toNat.toUInt8 = 32 from rfl, hi] at this
    exact this
  have hex : (s.extract kk s.size).data.toList = s.data.toList.drop kk := Lib.extract_to_end s kk
  obtain ⟨rs, hrs⟩ : ∃ rs : ByteArray, rs = ⟨(trimL (cutC 32 s.data.toList).2.1).toArray⟩ := ⟨_, rfl⟩
  have HTr : Hid (∀ w, Calls Tryz.prog 21 #[.string (s.extract kk s.size), .string ⟨#[32]⟩] w fun e w' => e = .returned (.string rs) ∧ ∃ n, w' = w.drewN n) := fun w => by
    have h0 : (s.extract kk s.size).size ≤ 1200 := by
      have : (s.extract kk s.size).size = (s.extract kk s.size).data.toList.length := by simp
      rw [this, hex, List.length_drop]
      omega
    have := trim_any (s.extract kk s.size) w (by omega)
    rw [hex, hr1] at this
    rw [hrs]
    exact this
  have HRS : Hid (rs.data.toList = trimL (cutC 32 s.data.toList).2.1) := by show _ = _; rw [hrs]
  have HE : Hid (Env w) := he
  have HRSz : Hid (rs.size ≤ 1200) := by
    show _ ≤ _
    have h1 : rs.size = rs.data.toList.length := by simp
    rw [h1, HRS.out, ← hr1]
    have h2 := trimV_len (s.data.toList.drop kk)
    rw [List.length_drop] at h2
    omega
  have hrne : rs.toList.isEmpty = false := ba_ne rs (fun e => hr2 (by rw [← HRS.out, e]))
  have hkk' : kk ≤ s.size := by omega
  have HNMx : Hid ((s.extract 0 kk).data.toList = (cutC 32 s.data.toList).1) := by
    show _ = _
    rw [Lib.extract_from_zero, cut_at 32 _ _ hi]
  clear he hi hl hr1 hr2 hex hrs hkk hlen
  go_enter Tryz.func22, Tryz.ntmps22
  go_wp2_with (go_at_call 53; refine (HIW.out _).mono ?_; rintro e w1 ⟨rfl, rfl⟩)
  go_region_with (go_at_call 21; refine (HTr.out _).mono ?_; rintro e w1 ⟨rfl, nd, rfl⟩)
  all_goals go_wp2
  obtain ⟨nm, hnm⟩ : ∃ nm : ByteArray, nm = s.extract 0 kk := ⟨_, rfl⟩
  have HNM : Hid (nm = s.extract 0 kk) := hnm
  rw [← hnm]
  clear hnm
  go_loopw [8] (fun i wr => ∃ k : Nat, 1 ≤ k ∧ k ≤ 40 ∧ i = .int .i64 k ∧ Hid (wr.heap[w.heap.size]? = some (.cells #[.int .i64 (opUp nm.data.toList k : Nat), .int .i64 0, .int .i64 0, .int .i64 0, .int .i64 0] 39)) ∧ Hid (Below w.heap.size w wr)) (fun i _ => 40 - (intOf i).toNat)
  case atStart =>
    refine ⟨1, by omega, by omega, rfl, ?_, below_drewN ((Below.refl _ _).alloc (Nat.le_refl _) _) _⟩
    have e0 : opUp nm.data.toList 1 = 0 := by unfold opUp; split <;> omega
    rw [e0]
    exact heap_alloc_last w _
  case round =>
    obtain ⟨k, hk1, hk2, rfl, HX, HB⟩ := hrel
    have HLo : Hid (w.heap.size < wr.heap.size) := (Array.getElem?_eq_some_iff.1 HX.out).1
    by_cases hlt : k < 40
    · have HS := opUp_step nm.data.toList k hk1
      have HAFT : Hid (∀ (w1 : World) (A : Obj), Below wr.heap.size wr w1 → (w1.alloc A).heap[w.heap.size]? = some (.cells #[.int .i64 (opUp nm.data.toList k : Nat), .int .i64 0, .int .i64 0, .int .i64 0, .int .i64 0] 39) ∧ (w1.alloc A).cell? ⟨w.heap.size, 0, none⟩ = some (.int .i64 (opUp nm.data.toList k : Nat)) ∧ (w1.alloc A).frozen? ⟨w.heap.size, 0, none⟩ = false ∧ Below w.heap.size w (w1.alloc A)) := fun w1 A hb => by
        have G0 : w1.heap[w.heap.size]? = some (.cells #[.int .i64 (opUp nm.data.toList k : Nat), .int .i64 0, .int .i64 0, .int .i64 0, .int .i64 0] 39) := by rw [hb.block _ HLo.out]; exact HX.out
        have G1 := row_alloc G0 A
        refine ⟨G1, by rw [cell_of_row _ _ _ _ _ _ G1]; rfl, row_free G1 0, (HB.out.trans (hb.mono (Nat.le_of_lt HLo.out))).alloc (by have := hb.size; have := HLo.out; omega) A⟩
      by_cases h31 : k ≤ 31
      · have HFm : Hid (FormNm (k : Int) ⟨(opN k).toArray⟩) := formNm_in k hk1 h31
        obtain ⟨ob, hob⟩ : ∃ ob : ByteArray, (⟨(opN k).toArray⟩ : ByteArray) = ob := ⟨_, rfl⟩
        rw [hob] at HFm
        by_cases heq : ob = nm
        · have HS' : Hid (opUp nm.data.toList (k + 1) = k) := by
            show _ = _
            rw [HS, if_pos ⟨h31, by rw [← heq, ← hob]; rfl⟩]
          clear HS hob
          rw [heq] at HFm
          clear heq
          go_wp2_with (go_at_call 32; fail)
          refine (HFm.out _).mono ?_
          rintro e w1 ⟨⟨kc, l, m, h, rfl⟩, hb⟩
          obtain ⟨G0, q0, f0, hb2⟩ := HAFT.out w1 (.cells #[.int .u8 kc, .int .u32 l, .int .u32 m, .int .u32 h, .string nm] 80) hb
          have HG0 : Hid ((w1.alloc (.cells #[.int .u8 kc, .int .u32 l, .int .u32 m, .int .u32 h, .string nm] 80)).heap[w.heap.size]? = some (.cells #[.int .i64 (opUp nm.data.toList k : Nat), .int .i64 0, .int .i64 0, .int .i64 0, .int .i64 0] 39)) := G0
          have HB2 : Hid (Below w.heap.size w (w1.alloc (.cells #[.int .u8 kc, .int .u32 l, .int .u32 m, .int .u32 h, .string nm] 80))) := hb2
          clear G0 hb2 hb
          go_wp2
          refine ⟨⟨k + 1, by omega, by omega, by go_num, ?_, HB2.out.setCell (p := ⟨w.heap.size, 0, none⟩) (Nat.le_refl _) _⟩, by simp [intOf]; omega⟩
          show _ = _
          rw [heap_setCell_same _ _ _ _ _ _ HG0.out, HS'.out]
          rfl
        · have HS' : Hid (opUp nm.data.toList (k + 1) = opUp nm.data.toList k) := by
            show _ = _
            rw [HS, if_neg (fun e => heq (by rw [← hob]; exact ba_inj e.2))]
          clear HS hob
          have hne := bytes_neq heq
          clear heq
          go_wp2_with (go_at_call 32; fail)
          refine (HFm.out _).mono ?_
          rintro e w1 ⟨⟨kc, l, m, h, rfl⟩, hb⟩
          obtain ⟨G0, q0, f0, hb2⟩ := HAFT.out w1 (.cells #[.int .u8 kc, .int .u32 l, .int .u32 m, .int .u32 h, .string ob] 80) hb
          have HG0 : Hid ((w1.alloc (.cells #[.int .u8 kc, .int .u32 l, .int .u32 m, .int .u32 h, .string ob] 80)).heap[w.heap.size]? = some (.cells #[.int .i64 (opUp nm.data.toList k : Nat), .int .i64 0, .int .i64 0, .int .i64 0, .int .i64 0] 39)) := G0
          have HB2 : Hid (Below w.heap.size w (w1.alloc (.cells #[.int .u8 kc, .int .u32 l, .int .u32 m, .int .u32 h, .string ob] 80))) := hb2
          clear G0 hb2 hb q0 f0
          go_wp2
          exact ⟨⟨k + 1, by omega, by omega, by go_num, by rw [HS'.out]; exact HG0.out, HB2.out⟩, by simp [intOf]; omega⟩
      · have HS' : Hid (opUp nm.data.toList (k + 1) = opUp nm.data.toList k) := by
          show _ = _
          rw [HS, if_neg (fun e => h31 e.1)]
        have HFo : Hid (∀ w, Calls Tryz.prog 32 #[.int .i64 (k : Int)] w fun e w' => e = .returned (.tuple #[.agg zero45, .bool false]) ∧ Below w.heap.size w w') := fun w => formOf_out k (.inr (by omega)) w
        clear HS
        go_wp2_with (go_at_call 32; fail)
        refine (HFo.out _).mono ?_
        rintro e w1 ⟨rfl, hb⟩
        obtain ⟨G0, q0, f0, hb2⟩ := HAFT.out w1 (.cells zero45 80) hb
        have HG0 : Hid ((w1.alloc (.cells zero45 80)).heap[w.heap.size]? = some (.cells #[.int .i64 (opUp nm.data.toList k : Nat), .int .i64 0, .int .i64 0, .int .i64 0, .int .i64 0] 39)) := G0
        have HB2 : Hid (Below w.heap.size w (w1.alloc (.cells zero45 80))) := hb2
        clear G0 hb2 hb q0 f0
        go_wp2
        exact ⟨⟨k + 1, by omega, by omega, by go_num, by rw [HS'.out]; exact HG0.out, HB2.out⟩, by simp [intOf]; omega⟩
    · obtain rfl : k = 40 := by omega
      obtain ⟨wo, hwo⟩ : ∃ wo, wo = wr := ⟨_, rfl⟩
      subst hwo
      have HOP := opUp_all nm.data.toList
      obtain ⟨o, ho⟩ : ∃ o, o = opV nm.data.toList := ⟨_, rfl⟩
      have ho31 : o ≤ 31 := by rw [ho]; exact opV_le _
      have HX' : Hid (wo.heap[w.heap.size]? = some (.cells #[.int .i64 (o : Int), .int .i64 0, .int .i64 0, .int .i64 0, .int .i64 0] 39)) := by
        have := HX.out
        rw [HOP, ← ho] at this
        exact this
      have HRV : Hid (readV s.data.toList = if o = 0 then none else partsV (opsL.getD o ([], [])).2 rs.data.toList ⟨o, 0, 0, 0, 0, []⟩) := by
        show _ = _
        unfold readV
        rw [← HNMx.out, ← HNM.out, ← HRS.out, ← ho]
      obtain ⟨mx, hmx⟩ := (HE.out.below HB.out).max
      have hrs2 : rs.size ≤ 1200 := HRSz.out
      obtain ⟨pl, hpl⟩ : ∃ pl : List ByteArray, pl = Lib.splitB ⟨#[44]⟩ 0 (Lib.countB rs ⟨#[44]⟩) rs := ⟨_, rfl⟩
      have HPl : Hid (pl.map (·.data.toList) = splitC 44 rs.data.toList) := by show _ = _; rw [hpl]; exact splitB_is 44 rs
      have hpn : Lib.countB rs ⟨#[44]⟩ + 1 = pl.length := by
        rw [splitB_len, ← HPl.out, List.length_map]
      have HSp : Hid (Calls Tryz.prog 20 #[.string rs, .string ⟨#[44]⟩] wo fun e w' => e = .returned (.slice (some ⟨wo.heap.size, 0, none⟩) pl.length pl.length) ∧ w' = wo.alloc (.cells (pl.map Value.string).toArray 9)) := by
        have := Tryz.strings_Split rs ⟨#[44]⟩ mx wo (by omega) hmx (Nat.le_refl 1)
        rw [hpn, ← hpl] at this
        exact this
      have hpl1 : 1 ≤ pl.length := by omega
      have hpl2 : pl.length ≤ 1201 := by
        rw [← hpn, splitB_len]
        have h1 := split_len 44 rs.data.toList
        have h2 : rs.data.toList.length = rs.size := by simp
        omega
      have HSh : Hid (Calls Tryz.prog 33 #[.int .i64 (o : Int)] (wo.alloc (.cells (pl.map Value.string).toArray 9)) fun e w' => e = .returned (.string ⟨(shpV o).toArray⟩) ∧ Below (wo.alloc (.cells (pl.map Value.string).toArray 9)).heap.size (wo.alloc (.cells (pl.map Value.string).toArray 9)) w') := shape_doc o _
      have hfs : (⟨(shpV o).toArray⟩ : ByteArray).size = (opsL.getD o ([], [])).2.length := by simp [ByteArray.size, shpV]
      have q0 : (wo.alloc (.cells (pl.map Value.string).toArray 9)).cell? ⟨w.heap.size, 0, none⟩ = some (.int .i64 (o : Int)) := by rw [cell_of_row _ _ _ _ _ _ (row_alloc HX'.out _)]; rfl
      have HM : Hid (∀ w2, Below (wo.alloc (.cells (pl.map Value.string).toArray 9)).heap.size (wo.alloc (.cells (pl.map Value.string).toArray 9)) w2 → w2.heap[w.heap.size]? = some (.cells #[.int .i64 (o : Int), .int .i64 0, .int .i64 0, .int .i64 0, .int .i64 0] 39) ∧ w2.heap[wo.heap.size]? = some (.cells (pl.map Value.string).toArray 9) ∧ w2.cell? ⟨w.heap.size, 0, none⟩ = some (.int .i64 (o : Int)) ∧ w2.cell? ⟨w.heap.size, 1, none⟩ = some (.int .i64 0) ∧ w2.cell? ⟨w.heap.size, 2, none⟩ = some (.int .i64 0) ∧ w2.cell? ⟨w.heap.size, 3, none⟩ = some (.int .i64 0) ∧ w2.cell? ⟨w.heap.size, 4, none⟩ = some (.int .i64 0) ∧ Below w.heap.size w w2) := fun w2 hb => by
        have hlt := HLo.out
        have G0 : w2.heap[w.heap.size]? = some (.cells #[.int .i64 (o : Int), .int .i64 0, .int .i64 0, .int .i64 0, .int .i64 0] 39) := by rw [hb.block _ (by simp; omega)]; exact row_alloc HX'.out _
        have G1 : w2.heap[wo.heap.size]? = some (.cells (pl.map Value.string).toArray 9) := by rw [hb.block _ (by simp)]; exact heap_alloc_last wo _
        exact ⟨G0, G1, by rw [cell_of_row _ _ _ _ _ _ G0]; rfl, by rw [cell_of_row _ _ _ _ _ _ G0]; rfl, by rw [cell_of_row _ _ _ _ _ _ G0]; rfl, by rw [cell_of_row _ _ _ _ _ _ G0]; rfl, by rw [cell_of_row _ _ _ _ _ _ G0]; rfl, (HB.out.alloc (Nat.le_of_lt hlt) _).trans (hb.mono (by simp; omega))⟩
      clear HX HOP ho hpn hmx hpl
      generalize hFm : (⟨(shpV o).toArray⟩ : ByteArray) = fm at *
      by_cases hgood : o ≠ 0 ∧ pl.length = fm.size
      · obtain ⟨hgo, hgp⟩ := hgood
        have h0' : ((o : Int) == 0) = false := by simp; omega
        obtain ⟨ks, hks⟩ : ∃ ks, ks = (opsL.getD o ([], [])).2 := ⟨_, rfl⟩
        have hksl : ks.length = fm.size := by rw [hks, ← hfs]
        have hk0 : ks ≠ [] := fun e => by rw [e] at hksl; simp at hksl; omega
        have HRV2 : Hid (readV s.data.toList = foldT ks (pl.map (·.data.toList)) ⟨o, 0, 0, 0, 0, []⟩) := by
          show _ = _
          rw [HRV.out, if_neg hgo, ← hks, HPl.out]
          cases ks with
          | nil => exact absurd rfl hk0
          | cons c cs => rw [parts_fold]
        have HFM : Hid (fm.data.toList = ks.map shB) := by show _ = _; rw [← hFm, hks]; rfl
        have HKo : Hid (∀ c ∈ ks, kindOk c = true) := fun c hc => by
          rw [hks] at hc
          exact List.all_eq_true.1 (parts_ok o (by omega)).1 c hc
        have HPs : Hid (∀ p ∈ pl, p.size ≤ 1200) := fun p hp => by
          have h1 : p.data.toList ∈ splitC 44 rs.data.toList := by rw [← HPl.out]; exact List.mem_map_of_mem hp
          have h2 := split_mem 44 _ _ h1
          have h3 : p.data.toList.length = p.size := by simp
          have h4 : rs.data.toList.length = rs.size := by simp
          omega
        have hplI : ((pl.length : Int) == (fm.size : Int)) = true := by simp; omega
        clear hFm hks hfs HRV
        go_wp2_with (first | (go_at_call 20; refine HSp.out.mono ?_; rintro e w1 ⟨rfl, rfl⟩) | (go_at_call 33; refine HSh.out.mono ?_; rintro e w2 ⟨rfl, hb⟩; obtain ⟨G0, G1, p0, p1, p2, p3, p4, hb2⟩ := HM.out w2 hb; have HG0 : Hid (w2.heap[w.heap.size]? = some (.cells #[.int .i64 (o : Int), .int .i64 0, .int .i64 0, .int .i64 0, .int .i64 0] 39)) := G0; have HG1 : Hid (w2.heap[wo.heap.size]? = some (.cells (pl.map Value.string).toArray 9)) := G1; have HB2 : Hid (Below w.heap.size w w2) := hb2; clear hb hb2 G0 G1))
        have HLw : Hid (wo.heap.size < w2.heap.size) := (Array.getElem?_eq_some_iff.1 HG1.out).1
        go_loopw [3, 4] (fun t okv wr => ∃ (k : Nat) (d a b n : Int) (tb : ByteArray) (ob : Bool), k ≤ fm.size ∧ t = .string tb ∧ okv = .bool ob ∧ Hid (StR (foldT (ks.take k) ((pl.map (·.data.toList)).take k) ⟨o, 0, 0, 0, 0, []⟩) o d a b n tb.data.toList ob) ∧ Hid (wr.heap[w2.heap.size]? = some (.stringIter fm k)) ∧ Hid (wr.heap[w.heap.size]? = some (.cells #[.int .i64 (o : Int), .int .i64 d, .int .i64 a, .int .i64 b, .int .i64 n] 39)) ∧ Hid (wr.heap[wo.heap.size]? = some (.cells (pl.map Value.string).toArray 9)) ∧ Hid (Below w.heap.size w wr)) (fun _ _ wr => fm.size - wr.iterPos w2.heap.size)
        case atStart =>
          refine ⟨0, 0, 0, 0, 0, _, true, Nat.zero_le _, rfl, rfl, ?_, World.iter_heap _ _ _, row_alloc HG0.out _, row_alloc HG1.out _, HB2.out.alloc (by have := HLo.out; have := HLw.out; omega) _⟩
          exact ⟨rfl, rfl, rfl, rfl, rfl, rfl, fun _ => rfl⟩
        case round =>
          obtain ⟨k, d, a, b, n, tb, ob, hkk2, rfl, rfl, HSt, HI, HXl, HPr, HBl⟩ := hrel
          by_cases hi : k < fm.size
          · have hkl : k < ks.length := by omega
            have hkp : k < pl.length := by omega
            have hc : fm[k] = shB ks[k] := by
              have h1 : fm.data.toList[k]'(by simpa using hi) = fm[k] := rfl
              rw [← h1, List.getElem_of_eq HFM.out]
              simp
            have hko := HKo.out ks[k] (List.getElem_mem hkl)
            obtain ⟨pp, hpp⟩ : ∃ pp, pp = pl[k] := ⟨_, rfl⟩
            have hps : pp.size ≤ 1200 := by rw [hpp]; exact HPs.out _ (List.getElem_mem hkp)
            have HT : Hid (foldT (ks.take (k + 1)) ((pl.map (·.data.toList)).take (k + 1)) ⟨o, 0, 0, 0, 0, []⟩ = (foldT (ks.take k) ((pl.map (·.data.toList)).take k) ⟨o, 0, 0, 0, 0, []⟩).bind (takeV ks[k] pp.data.toList)) :=
              fold_take ks _ _ k _ _ (List.getElem?_eq_getElem hkl) (by rw [List.getElem?_map, List.getElem?_eq_getElem hkp, hpp]; rfl)
            have hca : fm[k].toNat < 128 := by
              rw [hc]
              simp only [kindOk, Bool.or_eq_true, beq_iff_eq] at hko
              rcases hko with ((((h | h) | h) | h) | h) | h <;> rw [h] <;> decide
            have hnx := fun ty => Lib.run_next_ascii_at (P := Tryz.prog) wr w2.heap.size fm k ty HI.out hi hca
            have HO2 : Hid (w.heap.size < w2.heap.size) := (Array.getElem?_eq_some_iff.1 HG0.out).1
            have HI4 : Hid ((wr.iterAt w2.heap.size fm (k + 1)).heap[w2.heap.size]? = some (.stringIter fm (k + 1))) := Lib.iterAt_heap _ _ _ _ _ HI.out
            have HX4 : Hid ((wr.iterAt w2.heap.size fm (k + 1)).heap[w.heap.size]? = some (.cells #[.int .i64 (o : Int), .int .i64 d, .int .i64 a, .int .i64 b, .int .i64 n] 39)) := by
              show _ = _
              have hne : w2.heap.size ≠ w.heap.size := Nat.ne_of_gt HO2.out
              simp only [World.iterAt, Array.getElem?_setIfInBounds_ne hne]
              exact HXl.out
            have HP4 : Hid ((wr.iterAt w2.heap.size fm (k + 1)).heap[wo.heap.size]? = some (.cells (pl.map Value.string).toArray 9)) := by
              show _ = _
              have hne : w2.heap.size ≠ wo.heap.size := Nat.ne_of_gt HLw.out
              simp only [World.iterAt, Array.getElem?_setIfInBounds_ne hne]
              exact HPr.out
            have HB4 : Hid (Below w.heap.size w (wr.iterAt w2.heap.size fm (k + 1))) := by
              refine HBl.out.trans ⟨rfl, rfl, rfl, by simp [World.iterAt], fun j hj => ?_⟩
              have hne : w2.heap.size ≠ j := by have := HO2.out; omega
              simp only [World.iterAt, Array.getElem?_setIfInBounds_ne hne]
            obtain ⟨w4, hw4⟩ : ∃ w4, w4 = wr.iterAt w2.heap.size fm (k + 1) := ⟨_, rfl⟩
            rw [← hw4] at hnx HI4 HX4 HP4 HB4
            rw [hc] at hnx
            clear hca hc hw4
            have cP : w4.cell? ⟨wo.heap.size, k, none⟩ = some (.string pp) := by
              rw [cell_of_row _ _ _ _ _ _ HP4.out, hpp]
              simp [hkp]
            simp only [kindOk, Bool.or_eq_true, beq_iff_eq] at hko
            have hlt4 : wo.heap.size < w4.heap.size := (Array.getElem?_eq_some_iff.1 HP4.out).1
            have HLoW : Hid (w.heap.size < wo.heap.size ∧ wo.heap.size < w2.heap.size) := ⟨HLo.out, HLw.out⟩
            have HEw : Hid (Env w4) := HE.out.below HB4.out
            have HLen : Hid (List.length ks = pl.length) := by show _ = _; rw [hksl, hgp]
            rcases hko with ((((hl | hl) | hl) | hl) | hl) | hl
            · exact rd_d hkl hl hi hps HSt HI HT HI4 HX4 HP4 HB4 hnx cP hlt4 HLoW HEw HLen HRV2
            · exact rd_a hkl hl hi hps HSt HI HT HI4 HX4 HP4 HB4 hnx cP hlt4 HLoW HEw HLen HRV2
            · exact rd_b hkl hl hi hps HSt HI HT HI4 HX4 HP4 HB4 hnx cP hlt4 HLoW HEw HLen HRV2
            · exact rd_m hkl hl hi hps HSt HI HT HI4 HX4 HP4 HB4 hnx cP hlt4 HLoW HEw HLen HRV2
            · exact rd_t hkl hl hi hps HSt HI HT HI4 HX4 HP4 HB4 hnx cP hlt4 HLoW HEw HLen HRV2
            · exact rd_n hkl hl hi hps HSt HI HT HI4 HX4 HP4 HB4 hnx cP hlt4 HLoW HEw HLen HRV2
          · have hnx := fun ty => Lib.run_next_end_at (P := Tryz.prog) wr w2.heap.size fm k ty HI.out hi
            obtain rfl : k = fm.size := by omega
            have t0 : wr.cell? ⟨w.heap.size, 0, none⟩ = some (.int .i64 (o : Int)) := by rw [cell_of_row _ _ _ _ _ _ HXl.out]; rfl
            have t1 : wr.cell? ⟨w.heap.size, 1, none⟩ = some (.int .i64 d) := by rw [cell_of_row _ _ _ _ _ _ HXl.out]; rfl
            have t2 : wr.cell? ⟨w.heap.size, 2, none⟩ = some (.int .i64 a) := by rw [cell_of_row _ _ _ _ _ _ HXl.out]; rfl
            have t3 : wr.cell? ⟨w.heap.size, 3, none⟩ = some (.int .i64 b) := by rw [cell_of_row _ _ _ _ _ _ HXl.out]; rfl
            have t4 : wr.cell? ⟨w.heap.size, 4, none⟩ = some (.int .i64 n) := by rw [cell_of_row _ _ _ _ _ _ HXl.out]; rfl
            have HFin : Hid (StR (readV s.data.toList) o d a b n tb.data.toList ob) := by
              have := HSt.out
              rw [List.take_of_length_le (by omega), List.take_of_length_le (by rw [List.length_map]; omega), ← HRV2.out] at this
              exact this
            go_wp2_with (refine wpList_store_row rfl 39 _ _ rfl _ 39 _ _ rfl rfl HXl.out (by kernel_rfl) rfl (one5 _ _ _ _ _) ?_)
            refine bodyPost_ret (res22 _ _ w.heap.size _ _ _ _ _ rfl (setRow_heap _ _ _ _ _ _ HXl.out)) rfl ⟨?_, below_setRow HBl.out (Nat.le_refl _) _⟩
            have hf := HFin.out
            cases hrv : readV s.data.toList with
            | none =>
              rw [hrv] at hf
              have hf' : ob = false := hf
              subst hf'
              exact ⟨_, _, _, _, _, _, rfl⟩
            | some D =>
              rw [hrv] at hf
              obtain ⟨rfl, h1, h2, h3, h4, h5, h6⟩ := hf
              exact ⟨n, by rw [h1, h2, h3, h4, h5]; rfl, fun e => (h6 (h5 ▸ e)).symm⟩
      · have HN : Hid (readV s.data.toList = none) := by
          show _ = _
          rw [HRV.out]
          by_cases h0 : o = 0
          · rw [if_pos h0]
          · rw [if_neg h0]
            have hne : pl.length ≠ (opsL.getD o ([], [])).2.length := fun e => hgood ⟨h0, by rw [hfs]; exact e⟩
            cases hp : (opsL.getD o ([], [])).2 with
            | nil =>
              rw [partsV, if_neg]
              intro e
              have := HPl.out
              have hz : rs = ⟨#[]⟩ := ba_inj e
              rw [hz] at hrne
              simp at hrne
            | cons c ks =>
              rw [parts_fold]
              refine fold_len _ _ _ ?_
              rw [← HPl.out, List.length_map, ← hp]
              exact Ne.symm hne
        by_cases h0 : o = 0
        · subst h0
          go_wp2_with (first | (go_at_call 20; refine HSp.out.mono ?_; rintro e w1 ⟨rfl, rfl⟩) | (go_at_call 33; refine HSh.out.mono ?_; rintro e w2 ⟨rfl, hb⟩; obtain ⟨G0, G1, p0, p1, p2, p3, p4, hb2⟩ := HM.out w2 hb; have HG0 : Hid (w2.heap[w.heap.size]? = some (.cells #[.int .i64 ((0 : Nat) : Int), .int .i64 0, .int .i64 0, .int .i64 0, .int .i64 0] 39)) := G0; have HB2 : Hid (Below w.heap.size w w2) := hb2; clear hb hb2 G0 G1) | (refine wpList_store_row rfl 39 _ _ rfl _ 39 _ _ rfl rfl HG0.out (by kernel_rfl) rfl (one5 _ _ _ _ _) ?_))
          refine bodyPost_ret (res22 _ _ w.heap.size _ _ _ _ _ rfl (setRow_heap _ _ _ _ _ _ HG0.out)) rfl ⟨?_, below_setRow HB2.out (Nat.le_refl _) _⟩
          rw [HN.out]
          exact ⟨_, _, _, _, _, _, rfl⟩
        · have hne : ¬ pl.length = fm.size := fun e => hgood ⟨h0, e⟩
          have h0' : ((o : Int) == 0) = false := by simp; omega
          have hneI : ((pl.length : Int) == (fm.size : Int)) = false := by simp; omega
          clear hgood hfs hFm
          go_wp2_with (first | (go_at_call 20; refine HSp.out.mono ?_; rintro e w1 ⟨rfl, rfl⟩) | (go_at_call 33; refine HSh.out.mono ?_; rintro e w2 ⟨rfl, hb⟩; obtain ⟨G0, G1, p0, p1, p2, p3, p4, hb2⟩ := HM.out w2 hb; have HG0 : Hid (w2.heap[w.heap.size]? = some (.cells #[.int .i64 (o : Int), .int .i64 0, .int .i64 0, .int .i64 0, .int .i64 0] 39)) := G0; have HB2 : Hid (Below w.heap.size w w2) := hb2; clear hb hb2 G0 G1) | (refine wpList_store_row rfl 39 _ _ rfl _ 39 _ _ rfl rfl HG0.out (by kernel_rfl) rfl (one5 _ _ _ _ _) ?_))
          refine bodyPost_ret (res22 _ _ w.heap.size _ _ _ _ _ rfl (setRow_heap _ _ _ _ _ _ HG0.out)) rfl ⟨?_, below_setRow HB2.out (Nat.le_refl _) _⟩
          rw [HN.out]
          exact ⟨_, _, _, _, _, _, rfl⟩
/-- ReadInst, of a line that ends with no blank. -/
theorem readdoc (s : ByteArray) (w : World) (he : Env w) (hs : s.size ≤ 1200) (hl : s.data.toList.getLast? ≠ some 32) :
    Calls Tryz.prog 22 #[.string s] w fun e w' => RdOut (readV s.data.toList) e ∧ Below w.heap.size w w' := by
  rcases ixB_cases s.data.toList 32 with h | h
  · exact readdoc_plain s w he hs (cut_miss 32 _ h) h
  · exact readdoc_blank s w he hs (Lib.indexByte s.data.toList 32).toNat (by omega) hl
end Go.Proofs.YtjjjdplgdlaihaaGreatDoor
