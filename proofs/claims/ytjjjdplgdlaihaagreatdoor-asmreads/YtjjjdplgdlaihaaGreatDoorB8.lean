/- Package asm's read, walked. -/
import Derived.Test.YtjjjdplgdlaihaaGreatDoorME
namespace Go.Proofs.YtjjjdplgdlaihaaGreatDoor
open Go Go.RowKit

abbrev drC (d : Dr) (ln : Int) : Array Value := #[.int .i64 d.o, .int .i64 d.d, .int .i64 d.a, .int .i64 d.b, .int .i64 d.n, str d.pl, .int .i64 ln]
abbrev drV (d : Dr) (ln : Int) : Value := .agg (drC d ln)
def zeroD : Dr := ⟨0, 0, 0, 0, 0, []⟩

theorem load57 (w : World) (g : Nat) (d : Dr) (ln : Int) (hg : w.heap[g]? = some (.cells (drC d ln) 71)) : (loadVar 71 ⟨g, 0, none⟩).run Tryz.prog w = .ok (drV d ln) w :=
  run_loadVar_row w g 71 71 _ (0, 0) _ hg Tryz.underlying71 rfl (by kernel_rfl)
theorem res16 (tmps : Array Value) (w : World) (g : Nat) (d : Dr) (ln : Int) (hp : tmps.getD 2 undef = .pointer (some ⟨g, 0, none⟩)) (hg : w.heap[g]? = some (.cells (drC d ln) 71)) :
    (results Tryz.f27 tmps).run Tryz.prog w = .ok (.tuple #[drV d ln, tmps.getD 3 undef]) w := by
  rw [results_cell_tmp Tryz.results27, hp]
  simp only [asAddr, Sem.run_pure, Result.andThen_ok, load57 w g d ln hg]

theorem parts_step (c : UInt8) (ks rest : By) (d : Dr) : partsV (c :: ks) rest d = if (cutC 44 rest).2.2 = !ks.isEmpty then (match takeV c (cutC 44 rest).1 d with | none => none | some d' => partsV ks (cutC 44 rest).2.1 d') else none := by rw [partsV]; rfl

theorem frozen_row {w : World} {g : Nat} {cs : Array Value} {t : TypeId} (h : w.heap[g]? = some (.cells cs t (0, 0))) (i : Nat) : w.frozen? ⟨g, i, none⟩ = false := by
  simp [World.frozen?, h]

/-- The cells of the block that is handed back, while it is as it was made. -/
structure Zed (W : World) (g : Nat) : Prop where
  z0 : W.cell? ⟨g, 0, none⟩ = some (.int .i64 0)
  z1 : W.cell? ⟨g, 1, none⟩ = some (.int .i64 0)
  z2 : W.cell? ⟨g, 2, none⟩ = some (.int .i64 0)
  z3 : W.cell? ⟨g, 3, none⟩ = some (.int .i64 0)
  z4 : W.cell? ⟨g, 4, none⟩ = some (.int .i64 0)
  z5 : W.cell? ⟨g, 5, none⟩ = some (.string ⟨#[]⟩)
  z6 : W.cell? ⟨g, 6, none⟩ = some (.int .i64 0)
  zf : ∀ i, W.frozen? ⟨g, i, none⟩ = false
theorem zed_of {W : World} {g : Nat} (h : W.heap[g]? = some (.cells (drC zeroD 0) 71)) : Zed W g :=
  ⟨by rw [cell_of_row _ _ _ _ _ _ h]; rfl, by rw [cell_of_row _ _ _ _ _ _ h]; rfl, by rw [cell_of_row _ _ _ _ _ _ h]; rfl, by rw [cell_of_row _ _ _ _ _ _ h]; rfl, by rw [cell_of_row _ _ _ _ _ _ h]; rfl, by rw [cell_of_row _ _ _ _ _ _ h]; rfl, by rw [cell_of_row _ _ _ _ _ _ h]; rfl, fun i => frozen_row h i⟩

abbrev put7 (W : World) (g : Nat) (d : Dr) : World := ((((((W.setCell ⟨g, 0, none⟩ (.int .i64 d.o)).setCell ⟨g, 1, none⟩ (.int .i64 d.d)).setCell ⟨g, 2, none⟩ (.int .i64 d.a)).setCell ⟨g, 3, none⟩ (.int .i64 d.b)).setCell ⟨g, 4, none⟩ (.int .i64 d.n)).setCell ⟨g, 5, none⟩ (str d.pl)).setCell ⟨g, 6, none⟩ (.int .i64 0)
theorem put7_row {W : World} {g : Nat} (h : W.heap[g]? = some (.cells (drC zeroD 0) 71)) (d : Dr) : (put7 W g d).heap[g]? = some (.cells (drC d 0) 71) :=
  heap_setCell_same _ g 6 _ 71 _ (heap_setCell_same _ g 5 _ 71 _ (heap_setCell_same _ g 4 _ 71 _ (heap_setCell_same _ g 3 _ 71 _ (heap_setCell_same _ g 2 _ 71 _ (heap_setCell_same _ g 1 _ 71 _ (heap_setCell_same _ g 0 _ 71 _ h))))))
theorem put7_below {w W : World} (hb : Below w.heap.size w W) (d : Dr) : Below w.heap.size w (put7 W w.heap.size d) :=
  ((((((hb.setCell (p := ⟨w.heap.size, 0, none⟩) (Nat.le_refl _) _).setCell (p := ⟨w.heap.size, 1, none⟩) (Nat.le_refl _) _).setCell (p := ⟨w.heap.size, 2, none⟩) (Nat.le_refl _) _).setCell (p := ⟨w.heap.size, 3, none⟩) (Nat.le_refl _) _).setCell (p := ⟨w.heap.size, 4, none⟩) (Nat.le_refl _) _).setCell (p := ⟨w.heap.size, 5, none⟩) (Nat.le_refl _) _).setCell (p := ⟨w.heap.size, 6, none⟩) (Nat.le_refl _) _
theorem put7_size {W : World} {g : Nat} {d : Dr} : (put7 W g d).heap.size = W.heap.size := by simp [World.setCell]

theorem opV_lt (s : By) : opV s < 32 := by
  unfold opV
  cases h : (List.range 32).find? (fun i => decide (1 ≤ i) && (opsL.getD i ([], [])).1 == s) with
  | none => simp
  | some k =>
    have := List.mem_of_find?_eq_some h
    simpa using this

theorem drop_at (b : ByteArray) (k : Nat) (h : k < b.size) : b.data.toList.drop k = b[k] :: b.data.toList.drop (k + 1) := by
  rw [List.drop_eq_getElem_cons (by simpa using h)]
  rfl

/-- What read tells. -/
def RdPost (R : Option Dr) (e : Ending) : Prop := match R with | some d => e = .returned (.tuple #[drV d 0, .bool true]) | none => ∃ d, e = .returned (.tuple #[drV d 0, .bool false])
theorem rd_none (d : Dr) : RdPost none (.returned (.tuple #[drV d 0, .bool false])) := ⟨d, rfl⟩
theorem rd_some (d : Dr) : RdPost (some d) (.returned (.tuple #[drV d 0, .bool true])) := rfl

/-- The world where the draft is made. -/
abbrev rW (w : World) : World := w.alloc (.cells (drC zeroD 0) 71)

theorem parts_three : ∀ o, o < 32 → (opP o).length ≤ 3 := by decide

set_option maxRecDepth 100000 in
set_option maxHeartbeats 1000000 in
theorem read_any (s : ByteArray) (w : World) (he : Env w) (hw : 11 ≤ w.heap.size) (hs : s.size < 4294967281) :
    Calls Tryz.prog 27 #[.string s] w fun e w' => Below w.heap.size w w' ∧ RdPost (readV s.data.toList) e := by
  have hpl : s.data.toList.length = s.size := by simp
  have hcl := cutC_len 32 s.data.toList
  rw [hpl] at hcl
  have hb0 : Below w.heap.size w (rW w) := (Below.refl _ _).alloc (Nat.le_refl _) _
  have HC : Hid (Calls Tryz.prog 59 #[.string s, .string ⟨#[32]⟩] (rW w) fun e w' => e = .returned (.tuple #[str (cutC 32 s.data.toList).1, str (cutC 32 s.data.toList).2.1, .bool (cutC 32 s.data.toList).2.2]) ∧ ∃ n, w' = (rW w).drewN n) := cut_any s 32 (rW w) (he.below hb0) hs
  have hrv : readV s.data.toList = if opV (cutC 32 s.data.toList).1 = 0 then none else partsV (opP (opV (cutC 32 s.data.toList).1)) (trimL (cutC 32 s.data.toList).2.1) ⟨opV (cutC 32 s.data.toList).1, 0, 0, 0, 0, []⟩ := rfl
  rw [hrv]
  clear hrv
  generalize (cutC 32 s.data.toList).1 = nm at *
  generalize (cutC 32 s.data.toList).2.1 = rs at *
  generalize (cutC 32 s.data.toList).2.2 = mo at *
  have HO : Hid (∀ n, Calls Tryz.prog 61 #[str nm] ((rW w).drewN n) fun e w' => e = .returned (.int .i64 (opV nm : Int)) ∧ w' = (rW w).drewN n) := fun n => opOf_any ⟨nm.toArray⟩ _ ((he.below hb0).below (below_drewN (Below.refl _ _) n))
  by_cases ho : opV nm = 0
  · rw [if_pos ho]
    rw [ho] at HO
    clear he hs hpl hcl ho
    go_enter Tryz.func27, Tryz.ntmps27
    go_wp2_with (first
      | (go_at_call 59; refine HC.out.mono ?_; rintro e w1 ⟨rfl, n, rfl⟩)
      | (go_at_call 61; refine (HO.out _).mono ?_; rintro e w1 ⟨rfl, rfl⟩)
      | go_in)
    refine bodyPost_ret (res16 _ _ w.heap.size zeroD 0 rfl ?_) rfl ⟨?_, rd_none zeroD⟩
    · rw [Below.heap_alloc _ _ _ (by simp [World.setCell])]
      exact put7_row (d := zeroD) (heap_alloc_last w _)
    · exact (put7_below (below_drewN hb0 n) zeroD).alloc (by simp [World.setCell]) _
  · rw [if_neg ho]
    have ho1 : 1 ≤ opV nm := by omega
    have ho2 : opV nm ≤ 31 := by have := opV_lt nm; omega
    obtain ⟨o, hoe⟩ : ∃ o, opV nm = o := ⟨_, rfl⟩
    rw [hoe] at HO ho1 ho2 ⊢
    obtain ⟨_, _, _, p4⟩ := ops_ok o (by omega) ho1
    have HK : Hid (∀ k ∈ opP o, kindOk k = true) := fun k hk => List.all_eq_true.1 p4 k hk
    obtain ⟨pb, hpb⟩ : ∃ pb : ByteArray, pb = ⟨(opP o).toArray⟩ := ⟨_, rfl⟩
    have HPB : Hid (pb.data.toList = opP o) := by show _ = _; rw [hpb]
    have hp3 : pb.size ≤ 3 := by
      have h1 := parts_three o (by omega)
      rw [← HPB.out] at h1
      simpa using h1
    have HT : Hid (∀ w, Calls Tryz.prog 62 #[str rs, .string ⟨#[32]⟩] w fun e w' => e = .returned (str (trimL rs)) ∧ w' = w) := fun w => Tryz.strings_TrimLeft_one ⟨rs.toArray⟩ 32 (by decide) w
    have HTL : Hid ((trimL rs).length < 4294967281) := by
      show _ < _
      have : (trimL rs).length ≤ rs.length := (List.dropWhile_sublist _).length_le
      omega
    have HE : Hid (∀ w', Below w.heap.size w w' → Env w') := fun w' hb => he.below hb
    have hop : ∀ w', Below w.heap.size w w' → w'.cell? ⟨1, o * 2 + 1, none⟩ = some (.string pb) := fun w' hb => by rw [hpb]; exact (he.below hb).opp o ho1 ho2
    have HOP : Hid (∀ w', Below w.heap.size w w' → w'.cell? ⟨1, o * 2 + 1, none⟩ = some (.string pb)) := hop
    have HB0 : Hid (Below w.heap.size w (rW w)) := hb0
    have HB1 : Hid (∀ n, Below w.heap.size w (((rW w).drewN n).alloc (.cells (drC ⟨o, 0, 0, 0, 0, []⟩ 0) 71))) := fun n => (below_drewN hb0 n).alloc (by simp) _
    have h0 : ∀ n A, (((rW w).drewN n).alloc A).cell? ⟨1, o * 2 + 1, none⟩ = some (.string pb) := fun n A => hop _ ((below_drewN hb0 n).alloc (by simp) A)
    have ho3 : (o : Int) ≤ 31 := by omega
    have hn0 : ¬ w.heap.size = 0 := by omega
    have hn1 : ¬ w.heap.size = 1 := by omega
    have hn2 : ¬ 1 = w.heap.size := by omega
    have hn3 : 1 < w.heap.size := by omega
    have ho4 : ¬ (o : Int) = 0 := by omega
    generalize hR : partsV (opP o) (trimL rs) ⟨o, 0, 0, 0, 0, []⟩ = R at *
    have HR : Hid (partsV pb.data.toList (trimL rs) ⟨o, 0, 0, 0, 0, []⟩ = R) := by show _ = _; rw [HPB.out]; exact hR
    clear he hs hpl hcl ho hoe p4 hop hb0 hR hpb
    generalize trimL rs = rest0 at *
    go_enter Tryz.func27, Tryz.ntmps27
    go_wp2_with (first
      | (go_at_call 59; refine HC.out.mono ?_; rintro e w1 ⟨rfl, n, rfl⟩)
      | (go_at_call 61; refine (HO.out _).mono ?_; rintro e w1 ⟨rfl, rfl⟩)
      | (go_at_call 62; refine (HT.out _).mono ?_; rintro e w1 ⟨rfl, rfl⟩)
      | go_in)
    have HW0 : Hid (Below w.heap.size w (((rW w).drewN n).alloc (.cells (drC ⟨o, 0, 0, 0, 0, []⟩ 0) 71)) ∧ DrAt (((rW w).drewN n).alloc (.cells (drC ⟨o, 0, 0, 0, 0, []⟩ 0) 71)) (w.heap.size + 1) ⟨o, 0, 0, 0, 0, []⟩ 0 ∧ (((rW w).drewN n).alloc (.cells (drC ⟨o, 0, 0, 0, 0, []⟩ 0) 71)).heap[w.heap.size]? = some (.cells (drC zeroD 0) 71)) := by
      have hr : (((rW w).drewN n).alloc (.cells (drC ⟨o, 0, 0, 0, 0, []⟩ 0) 71)).heap[w.heap.size + 1]? = some (.cells (drC ⟨o, 0, 0, 0, 0, []⟩ 0) 71) := by
        have := heap_alloc_last ((rW w).drewN n) (.cells (drC ⟨o, 0, 0, 0, 0, []⟩ 0) 71)
        simpa using this
      refine ⟨HB1.out n, ⟨by omega, ?_, ?_, ?_, ?_, ?_, ?_, ?_, fun i => frozen_row hr i⟩, ?_⟩
      · rw [cell_of_row _ _ _ _ _ _ hr]; rfl
      · rw [cell_of_row _ _ _ _ _ _ hr]; rfl
      · rw [cell_of_row _ _ _ _ _ _ hr]; rfl
      · rw [cell_of_row _ _ _ _ _ _ hr]; rfl
      · rw [cell_of_row _ _ _ _ _ _ hr]; rfl
      · rw [cell_of_row _ _ _ _ _ _ hr]; rfl
      · rw [cell_of_row _ _ _ _ _ _ hr]; rfl
      · rw [Below.heap_alloc _ _ _ (by simp)]; exact heap_alloc_last w _
    change Code.wp _ _ _ _ (((rW w).drewN n).alloc (.cells (drC ⟨o, 0, 0, 0, 0, []⟩ 0) 71))
    generalize ((rW w).drewN n).alloc (.cells (drC ⟨o, 0, 0, 0, 0, []⟩ 0) 71) = W0 at *
    clear HB1 HB0 HC HO HT HOP h0
    go_loopw [5, 38] (fun r i wr => ∃ (k : Nat) (rest : By), k ≤ pb.size ∧ i = .int .i64 k ∧ r = str rest ∧ Hid (rest.length < 4294967281 ∧ ∃ d, DrAt wr (w.heap.size + 1) d 0 ∧ Off (· = w.heap.size + 1) W0 wr ∧ partsV (pb.data.toList.drop k) rest d = R)) (fun _ i _ => pb.size - (intOf i).toNat)
    case atStart => exact ⟨0, rest0, Nat.zero_le _, rfl, rfl, HTL.out, _, HW0.out.2.1, Off.refl _ _, by simpa using HR.out⟩
    case round =>
      obtain ⟨k, rest, hk, rfl, rfl, hp⟩ := hrel
      obtain ⟨hrl, d, hd, hoff, hparts⟩ := hp.out
      have HBr : Hid (Below w.heap.size w wr) := HW0.out.1.trans (hoff.below HW0.out.1.size (fun i hi e => by omega))
      have HW2 : Hid (wr.heap[w.heap.size]? = some (.cells (drC zeroD 0) 71)) := by
        show _ = _
        rw [hoff.block w.heap.size (by have := HW0.out.2.1.lt; omega) (by omega)]
        exact HW0.out.2.2
      have HDr : Hid (DrAt wr (w.heap.size + 1) d 0) := hd
      have HOr : Hid (Off (· = w.heap.size + 1) W0 wr) := hoff
      have HPr : Hid (partsV (pb.data.toList.drop k) rest d = R) := hparts
      have hlt2 := hd.lt
      clear hd hoff hparts hp
      by_cases hlt : k < pb.size
      · have hcl := cutC_len 44 rest
        have HCr : Hid (Calls Tryz.prog 59 #[str rest, .string ⟨#[44]⟩] wr fun e w' => e = .returned (.tuple #[str (cutC 44 rest).1, str (cutC 44 rest).2.1, .bool (cutC 44 rest).2.2]) ∧ ∃ n, w' = wr.drewN n) := cut_any ⟨rest.toArray⟩ 44 wr (HE.out _ HBr.out) (by rw [str_size]; exact hrl)
        have hkd : kindOk pb[k] = true := HK.out _ (by rw [← HPB.out]; have := drop_at pb k hlt; exact List.mem_of_mem_drop (by rw [this]; simp))
        have HTk : Hid (∀ n, Calls Tryz.prog 63 #[.pointer (some ⟨w.heap.size + 1, 0, none⟩), .int .u8 (pb[k].toNat : Int), str (cutC 44 rest).1] (wr.drewN n) fun e w' => Took (wr.drewN n) (w.heap.size + 1) 0 (takeV pb[k] (cutC 44 rest).1 d) e w') := fun n =>
          take_all (wr.drewN n) (w.heap.size + 1) d 0 pb[k] hkd ⟨(cutC 44 rest).1.toArray⟩ (HDr.out.below (below_drewN (Below.refl _ _) n)) ((HE.out _ HBr.out).below (below_drewN (Below.refl _ _) n)) (by rw [str_size]; omega)
        have hps := HPr.out
        rw [drop_at pb k hlt, parts_step] at hps
        have hemp : (!(pb.data.toList.drop (k + 1)).isEmpty) = decide (k + 1 < pb.size) := by
          rw [Bool.eq_iff_iff]
          simp
        rw [hemp] at hps
        have HPS : Hid ((if (cutC 44 rest).2.2 = decide (k + 1 < pb.size) then (match takeV pb[k] (cutC 44 rest).1 d with | none => none | some d' => partsV (pb.data.toList.drop (k + 1)) (cutC 44 rest).2.1 d') else none) = R) := hps
        have HBL : Hid ((cutC 44 rest).2.1.length < 4294967281) := by show _ < _; omega
        clear hps hemp hkd hcl hrl HPr
        generalize (cutC 44 rest).1 = part at *
        generalize (cutC 44 rest).2.1 = beh at *
        generalize (cutC 44 rest).2.2 = more at *
        by_cases hk2 : k + 1 < pb.size
        · have hk3 : (k : Int) + 1 < (pb.size : Int) := by omega
          cases more with
          | false =>
            have HRN : Hid (R = none) := by show _ = _; rw [← HPS.out, if_neg (by simp [hk2])]
            clear HPS HTk
            obtain ⟨z0, z1, z2, z3, z4, z5, z6, zf⟩ := zed_of HW2.out
            obtain ⟨_, a0, a1, a2, a3, a4, a5, a6, _⟩ := HDr.out
            clear HDr HOr
            obtain ⟨o1, d1, q1, b1, n1, pl1⟩ := d
            simp only at a0 a1 a2 a3 a4 a5
            obtain ⟨x1, hx1⟩ : ∃ x : ByteArray, (⟨pl1.toArray⟩ : ByteArray) = x := ⟨_, rfl⟩
            have a5' : wr.cell? ⟨w.heap.size + 1, 5, none⟩ = some (.string x1) := by rw [a5, ← hx1]
            have HX1 : Hid ((⟨pl1.toArray⟩ : ByteArray) = x1) := hx1
            clear a5 hx1
            go_wp2_with (go_at_call 59; refine HCr.out.mono ?_; rintro e w1 ⟨rfl, n', rfl⟩)
            have hx := HX1.out
            subst hx
            refine bodyPost_ret (res16 _ _ w.heap.size ⟨o1, d1, q1, b1, n1, pl1⟩ 0 rfl ?_) rfl ⟨?_, ?_⟩
            · exact put7_row (W := wr.drewN n') HW2.out ⟨o1, d1, q1, b1, n1, pl1⟩
            · exact put7_below (below_drewN HBr.out n') ⟨o1, d1, q1, b1, n1, pl1⟩
            · rw [HRN.out]; exact rd_none _
          | true =>
            have HQ : Hid ((match takeV pb[k] part d with | none => none | some d' => partsV (pb.data.toList.drop (k + 1)) beh d') = R) := by
              show _ = _
              rw [← HPS.out, if_pos (by simp [hk2])]
            clear HPS
            cases ht : takeV pb[k] part d with
            | none =>
              rw [ht] at HQ HTk
              have HRN : Hid (R = none) := HQ.out.symm
              have HT2 : Hid (∀ n, Calls Tryz.prog 63 #[.pointer (some ⟨w.heap.size + 1, 0, none⟩), .int .u8 (pb[k].toNat : Int), str part] (wr.drewN n) fun e w' => e = .returned (.bool false) ∧ ∃ (o1 d1 q1 b1 n1 : Int) (x1 : ByteArray) (pl1 : By), Hid ((⟨pl1.toArray⟩ : ByteArray) = x1) ∧ Zed w' w.heap.size ∧ w'.cell? ⟨w.heap.size + 1, 0, none⟩ = some (.int .i64 o1) ∧ w'.cell? ⟨w.heap.size + 1, 1, none⟩ = some (.int .i64 d1) ∧ w'.cell? ⟨w.heap.size + 1, 2, none⟩ = some (.int .i64 q1) ∧ w'.cell? ⟨w.heap.size + 1, 3, none⟩ = some (.int .i64 b1) ∧ w'.cell? ⟨w.heap.size + 1, 4, none⟩ = some (.int .i64 n1) ∧ w'.cell? ⟨w.heap.size + 1, 5, none⟩ = some (.string x1) ∧ w'.cell? ⟨w.heap.size + 1, 6, none⟩ = some (.int .i64 0) ∧ Hid (w'.heap[w.heap.size]? = some (.cells (drC zeroD 0) 71) ∧ Below w.heap.size w w')) := fun n =>
                (HTk.out n).mono fun e w' ⟨d2, hd2, ho2, he2⟩ => by
                  have hr : w'.heap[w.heap.size]? = some (.cells (drC zeroD 0) 71) := by
                    rw [ho2.block w.heap.size (by show w.heap.size < wr.heap.size; omega) (by omega)]; exact HW2.out
                  have hb2 : Below w.heap.size w w' := (below_drewN HBr.out n).trans (ho2.below (by show w.heap.size ≤ wr.heap.size; omega) (fun i hi e => by omega))
                  exact ⟨he2, d2.o, d2.d, d2.a, d2.b, d2.n, _, d2.pl, rfl, zed_of hr, hd2.c0, hd2.c1, hd2.c2, hd2.c3, hd2.c4, hd2.c5, hd2.c6, hr, hb2⟩
              clear HQ ht HTk HDr HOr
              go_wp2_with (first
                | (go_at_call 59; refine HCr.out.mono ?_; rintro e w1 ⟨rfl, n', rfl⟩)
                | (go_at_call 63; refine (HT2.out _).mono ?_; rintro e w2 ⟨rfl, o1, d1, q1, b1, n1, x1, pl1, hx1, ⟨z0, z1, z2, z3, z4, z5, z6, zf⟩, a0, a1, a2, a3, a4, a5, a6, hrb⟩))
              have hx := hx1.out
              subst hx
              refine bodyPost_ret (res16 _ _ w.heap.size ⟨o1, d1, q1, b1, n1, pl1⟩ 0 rfl ?_) rfl ⟨?_, ?_⟩
              · exact put7_row hrb.out.1 ⟨o1, d1, q1, b1, n1, pl1⟩
              · exact put7_below hrb.out.2 ⟨o1, d1, q1, b1, n1, pl1⟩
              · rw [HRN.out]; exact rd_none _
            | some d2 =>
              rw [ht] at HQ HTk
              clear ht
              go_wp2_with (first
                | (go_at_call 59; refine HCr.out.mono ?_; rintro e w1 ⟨rfl, n', rfl⟩)
                | (go_at_call 63; refine (HTk.out _).mono ?_; rintro e w2 ⟨d3, hd2, ho2, rfl, rfl⟩; have HD2 : Hid (DrAt w2 (w.heap.size + 1) d3 0) := hd2; have HO2 : Hid (Off (· = w.heap.size + 1) (wr.drewN n') w2) := ho2; clear hd2 ho2)
                | go_in)
              exact ⟨⟨k + 1, beh, by omega, by go_num, rfl, HBL.out, _, HD2.out, (HOr.out.drewN n').trans HO2.out, HQ.out⟩, by simp [intOf]; omega⟩
        · have hk3 : ¬ (k : Int) + 1 < (pb.size : Int) := by omega
          cases more with
          | true =>
            have HRN : Hid (R = none) := by show _ = _; rw [← HPS.out, if_neg (by simp [hk2])]
            clear HPS HTk
            obtain ⟨z0, z1, z2, z3, z4, z5, z6, zf⟩ := zed_of HW2.out
            obtain ⟨_, a0, a1, a2, a3, a4, a5, a6, _⟩ := HDr.out
            clear HDr HOr
            obtain ⟨o1, d1, q1, b1, n1, pl1⟩ := d
            simp only at a0 a1 a2 a3 a4 a5
            obtain ⟨x1, hx1⟩ : ∃ x : ByteArray, (⟨pl1.toArray⟩ : ByteArray) = x := ⟨_, rfl⟩
            have a5' : wr.cell? ⟨w.heap.size + 1, 5, none⟩ = some (.string x1) := by rw [a5, ← hx1]
            have HX1 : Hid ((⟨pl1.toArray⟩ : ByteArray) = x1) := hx1
            clear a5 hx1
            go_wp2_with (go_at_call 59; refine HCr.out.mono ?_; rintro e w1 ⟨rfl, n', rfl⟩)
            have hx := HX1.out
            subst hx
            refine bodyPost_ret (res16 _ _ w.heap.size ⟨o1, d1, q1, b1, n1, pl1⟩ 0 rfl ?_) rfl ⟨?_, ?_⟩
            · exact put7_row (W := wr.drewN n') HW2.out ⟨o1, d1, q1, b1, n1, pl1⟩
            · exact put7_below (below_drewN HBr.out n') ⟨o1, d1, q1, b1, n1, pl1⟩
            · rw [HRN.out]; exact rd_none _
          | false =>
            have HQ : Hid ((match takeV pb[k] part d with | none => none | some d' => partsV (pb.data.toList.drop (k + 1)) beh d') = R) := by
              show _ = _
              rw [← HPS.out, if_pos (by simp [hk2])]
            clear HPS
            cases ht : takeV pb[k] part d with
            | none =>
              rw [ht] at HQ HTk
              have HRN : Hid (R = none) := HQ.out.symm
              have HT2 : Hid (∀ n, Calls Tryz.prog 63 #[.pointer (some ⟨w.heap.size + 1, 0, none⟩), .int .u8 (pb[k].toNat : Int), str part] (wr.drewN n) fun e w' => e = .returned (.bool false) ∧ ∃ (o1 d1 q1 b1 n1 : Int) (x1 : ByteArray) (pl1 : By), Hid ((⟨pl1.toArray⟩ : ByteArray) = x1) ∧ Zed w' w.heap.size ∧ w'.cell? ⟨w.heap.size + 1, 0, none⟩ = some (.int .i64 o1) ∧ w'.cell? ⟨w.heap.size + 1, 1, none⟩ = some (.int .i64 d1) ∧ w'.cell? ⟨w.heap.size + 1, 2, none⟩ = some (.int .i64 q1) ∧ w'.cell? ⟨w.heap.size + 1, 3, none⟩ = some (.int .i64 b1) ∧ w'.cell? ⟨w.heap.size + 1, 4, none⟩ = some (.int .i64 n1) ∧ w'.cell? ⟨w.heap.size + 1, 5, none⟩ = some (.string x1) ∧ w'.cell? ⟨w.heap.size + 1, 6, none⟩ = some (.int .i64 0) ∧ Hid (w'.heap[w.heap.size]? = some (.cells (drC zeroD 0) 71) ∧ Below w.heap.size w w')) := fun n =>
                (HTk.out n).mono fun e w' ⟨d2, hd2, ho2, he2⟩ => by
                  have hr : w'.heap[w.heap.size]? = some (.cells (drC zeroD 0) 71) := by
                    rw [ho2.block w.heap.size (by show w.heap.size < wr.heap.size; omega) (by omega)]; exact HW2.out
                  have hb2 : Below w.heap.size w w' := (below_drewN HBr.out n).trans (ho2.below (by show w.heap.size ≤ wr.heap.size; omega) (fun i hi e => by omega))
                  exact ⟨he2, d2.o, d2.d, d2.a, d2.b, d2.n, _, d2.pl, rfl, zed_of hr, hd2.c0, hd2.c1, hd2.c2, hd2.c3, hd2.c4, hd2.c5, hd2.c6, hr, hb2⟩
              clear HQ ht HTk HDr HOr
              go_wp2_with (first
                | (go_at_call 59; refine HCr.out.mono ?_; rintro e w1 ⟨rfl, n', rfl⟩)
                | (go_at_call 63; refine (HT2.out _).mono ?_; rintro e w2 ⟨rfl, o1, d1, q1, b1, n1, x1, pl1, hx1, ⟨z0, z1, z2, z3, z4, z5, z6, zf⟩, a0, a1, a2, a3, a4, a5, a6, hrb⟩))
              have hx := hx1.out
              subst hx
              refine bodyPost_ret (res16 _ _ w.heap.size ⟨o1, d1, q1, b1, n1, pl1⟩ 0 rfl ?_) rfl ⟨?_, ?_⟩
              · exact put7_row hrb.out.1 ⟨o1, d1, q1, b1, n1, pl1⟩
              · exact put7_below hrb.out.2 ⟨o1, d1, q1, b1, n1, pl1⟩
              · rw [HRN.out]; exact rd_none _
            | some d2 =>
              rw [ht] at HQ HTk
              clear ht
              go_wp2_with (first
                | (go_at_call 59; refine HCr.out.mono ?_; rintro e w1 ⟨rfl, n', rfl⟩)
                | (go_at_call 63; refine (HTk.out _).mono ?_; rintro e w2 ⟨d3, hd2, ho2, rfl, rfl⟩; have HD2 : Hid (DrAt w2 (w.heap.size + 1) d3 0) := hd2; have HO2 : Hid (Off (· = w.heap.size + 1) (wr.drewN n') w2) := ho2; clear hd2 ho2)
                | go_in)
              exact ⟨⟨k + 1, beh, by omega, by go_num, rfl, HBL.out, _, HD2.out, (HOr.out.drewN n').trans HO2.out, HQ.out⟩, by simp [intOf]; omega⟩
      · obtain rfl : k = pb.size := by omega
        have hps := HPr.out
        rw [List.drop_of_length_le (by simp), partsV] at hps
        obtain ⟨z0, z1, z2, z3, z4, z5, z6, zf⟩ := zed_of HW2.out
        obtain ⟨_, a0, a1, a2, a3, a4, a5, a6, _⟩ := HDr.out
        clear HDr HOr HPr
        by_cases hre : rest = []
        · subst hre
          rw [if_pos rfl] at hps
          have HRN : Hid (R = some d) := hps.symm
          clear hps
          obtain ⟨o1, d1, q1, b1, n1, pl1⟩ := d
          simp only at a0 a1 a2 a3 a4 a5
          obtain ⟨x1, hx1⟩ : ∃ x : ByteArray, (⟨pl1.toArray⟩ : ByteArray) = x := ⟨_, rfl⟩
          have a5' : wr.cell? ⟨w.heap.size + 1, 5, none⟩ = some (.string x1) := by rw [a5, ← hx1]
          have HX1 : Hid ((⟨pl1.toArray⟩ : ByteArray) = x1) := hx1
          clear a5 hx1
          go_wp2_with fail
          have hx := HX1.out
          subst hx
          refine bodyPost_ret (res16 _ _ w.heap.size ⟨o1, d1, q1, b1, n1, pl1⟩ 0 rfl ?_) rfl ⟨?_, ?_⟩
          · exact put7_row HW2.out ⟨o1, d1, q1, b1, n1, pl1⟩
          · exact put7_below HBr.out ⟨o1, d1, q1, b1, n1, pl1⟩
          · rw [HRN.out]; exact rd_some _
        · rw [if_neg hre] at hps
          have HRN : Hid (R = none) := hps.symm
          clear hps
          have HRE : Hid (¬ rest = []) := hre
          clear hre
          obtain ⟨o1, d1, q1, b1, n1, pl1⟩ := d
          simp only at a0 a1 a2 a3 a4 a5
          obtain ⟨x1, hx1⟩ : ∃ x : ByteArray, (⟨pl1.toArray⟩ : ByteArray) = x := ⟨_, rfl⟩
          have a5' : wr.cell? ⟨w.heap.size + 1, 5, none⟩ = some (.string x1) := by rw [a5, ← hx1]
          have HX1 : Hid ((⟨pl1.toArray⟩ : ByteArray) = x1) := hx1
          clear a5 hx1
          go_wp2_with fail
          have hx := HX1.out
          subst hx
          refine bodyPost_ret (res16 _ _ w.heap.size ⟨o1, d1, q1, b1, n1, pl1⟩ 0 rfl ?_) rfl ⟨?_, ?_⟩
          · exact put7_row HW2.out ⟨o1, d1, q1, b1, n1, pl1⟩
          · exact put7_below HBr.out ⟨o1, d1, q1, b1, n1, pl1⟩
          · rw [HRN.out]
            have hemp : List.isEmpty rest = false := by cases rest with | nil => exact absurd rfl HRE.out | cons _ _ => rfl
            show RdPost none (.returned (.tuple #[drV ⟨o1, d1, q1, b1, n1, pl1⟩ 0, .bool (List.isEmpty rest)]))
            rw [hemp]
            exact rd_none _
end Go.Proofs.YtjjjdplgdlaihaaGreatDoor
