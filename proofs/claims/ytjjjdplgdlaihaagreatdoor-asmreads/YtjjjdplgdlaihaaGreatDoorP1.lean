/- Print walked. -/
import Derived.Test.YtjjjdplgdlaihaaGreatDoorMJ
import Derived.Laws.IdiomStrings
namespace Go.Proofs.YtjjjdplgdlaihaaGreatDoor
open Go Go.RowKit

set_option maxRecDepth 100000 in
set_option maxHeartbeats 4000000 in
theorem print_yes (o : Nat) (d a b n : Int) (w : World) (he : Env w) (hr : Rt o d a b n = true) (hn0 : -9223372036854775808 ≤ n) (hn1 : n ≤ 9223372036854775807) :
    Calls Tryz.prog 12 #[instV o d a b n] w fun e w' => e = .returned (.tuple #[str (prV ⟨o, d, a, b, n, []⟩), .nilIface]) ∧ Below w.heap.size w w' := by
  obtain ⟨ho1, ho2, hrb⟩ := Rt_split hr
  have HR : Hid (∀ w', Below w.heap.size w w' → Calls Tryz.prog 36 #[instV o d a b n] w' fun e w'' => e = .returned (.bool true) ∧ Below w'.heap.size w' w'') := fun w' hb => by
    have := right_T o d a b n w' (he.below hb).tab
    rw [hr] at this
    exact this
  have HB1 : Hid (Below w.heap.size w (w.alloc (.cells #[.int .i64 o, .int .i64 d, .int .i64 a, .int .i64 b, .int .i64 n] 39))) := (Below.refl _ _).alloc (Nat.le_refl _) _
  have HF : Hid (Fits ⟨o, d, a, b, n, []⟩) := by
    simp only [rightB, Bool.and_eq_true] at hrb
    exact ⟨fit_any _ _ hrb.1.1.1, fit_any _ _ hrb.1.1.2, fit_any _ _ hrb.1.2, hn0, hn1⟩
  have HK6 : Hid (∀ c ∈ opP o, kindOk c = true) := by
    obtain ⟨_, _, _, p4⟩ := ops_ok o (by omega) (by omega)
    exact fun c hc => List.all_eq_true.1 p4 c hc
  clear hrb hr
  obtain ⟨nb, hnb⟩ : ∃ nb : ByteArray, nb = ⟨(opN o).toArray⟩ := ⟨_, rfl⟩
  obtain ⟨pb, hpb⟩ : ∃ pb : ByteArray, pb = ⟨(opP o).toArray⟩ := ⟨_, rfl⟩
  have HNB : Hid (nb.data.toList = opN o) := by show _ = _; rw [hnb]
  have HPB : Hid (pb.data.toList = opP o) := by show _ = _; rw [hpb]
  have ho3 : o ≤ 31 := by omega
  have ho4 : 1 ≤ o := by omega
  have hp3 : pb.size ≤ 3 := by
    have h1 := parts_three o (by omega)
    rw [← HPB.out] at h1
    simpa using h1
  have HOPS : Hid (∀ w', Below w.heap.size w w' → w'.cell? ⟨1, o * 2, none⟩ = some (.string nb) ∧ w'.cell? ⟨1, o * 2 + 1, none⟩ = some (.string pb)) := fun w' hb => by
    rw [hnb, hpb]; exact ⟨(he.below hb).opn o ho4 ho3, (he.below hb).opp o ho4 ho3⟩
  have HT : Hid (Lib.TabBelow Tryz.prog w.heap.size w "internal/strconv.uint64pow10" .u64 Lib.pow10Tab) := Lib.tabBelow_of_tabIs he.pow
  clear he hnb hpb
  go_enter Tryz.func12, Tryz.ntmps12
  go_wp2_with (go_at_call 36; fail)
  refine (HR.out _ HB1.out).mono ?_
  rintro e w2 ⟨rfl, hb2⟩
  have hX : w2.heap[w.heap.size]? = some (.cells #[.int .i64 o, .int .i64 d, .int .i64 a, .int .i64 b, .int .i64 n] 39) := by
    rw [hb2.block w.heap.size (by simp)]
    exact heap_alloc_last w _
  have HX : Hid (w2.heap[w.heap.size]? = some (.cells #[.int .i64 o, .int .i64 d, .int .i64 a, .int .i64 b, .int .i64 n] 39)) := hX
  have HB2 : Hid (Below w.heap.size w w2) := HB1.out.trans (hb2.mono (by simp))
  have x0 : w2.cell? ⟨w.heap.size, 0, none⟩ = some (.int .i64 o) := by rw [cell_of_row _ _ _ _ _ _ hX]; rfl
  have o0 := (HOPS.out _ HB2.out).1
  have o1 := (HOPS.out _ HB2.out).2
  clear hb2 hX
  have hconv : ∀ W, (convert 9 88 (.string nb)).run Tryz.prog W = .ok (.slice (some ⟨W.heap.size, 0, none⟩) nb.size (grownCap W nb.size 0 5)) (W.drew.alloc (.cells (bytesRow nb (grownCap W nb.size 0 5)) 5 ((bytesRow nb (grownCap W nb.size 0 5)).size, (bytesRow nb (grownCap W nb.size 0 5)).size + 1))) := fun W => run_bytes_of_string W 9 88 5 nb Tryz.underlying9 Tryz.underlying88 Tryz.underlying5
  go_wp2_with fail
  have HW0 : Hid (∀ W0, W0 = (((w2.alloc (.cells #[.string nb, .string pb] 86)).alloc (.cells (bytesRow nb (grownCap (w2.alloc (.cells #[.string nb, .string pb] 86)) nb.size 0 5)) 5 ((bytesRow nb (grownCap (w2.alloc (.cells #[.string nb, .string pb] 86)) nb.size 0 5)).size, (bytesRow nb (grownCap (w2.alloc (.cells #[.string nb, .string pb] 86)) nb.size 0 5)).size + 1))).alloc (.cells #[.slice (some ⟨w2.heap.size + 1, 0, none⟩) nb.size (grownCap (w2.alloc (.cells #[.string nb, .string pb] 86)) nb.size 0 5)] 88)).drew →
      Below w.heap.size w W0 ∧ W0.heap[w.heap.size]? = some (.cells #[.int .i64 o, .int .i64 d, .int .i64 a, .int .i64 b, .int .i64 n] 39) ∧ W0.heap[w2.heap.size]? = some (.cells #[.string nb, .string pb] 86) ∧ Bx w.heap.size (w2.heap.size + 1 + 1) W0 (opN o) (.slice (some ⟨w2.heap.size + 1, 0, none⟩) nb.size (grownCap (w2.alloc (.cells #[.string nb, .string pb] 86)) nb.size 0 5))) := by
    rintro W0 rfl
    have hnm : nb.size ≤ maxLen := by
      have h1 := names_len o (by omega)
      rw [← HNB.out] at h1
      have h2 : nb.data.toList.length = nb.size := by simp
      unfold maxLen
      omega
    have := print_start w.heap.size w w2 nb pb _ HB2.out HX.out hnm
    rw [HNB.out] at this
    exact this
  have HW1 := HW0.out _ rfl
  clear hconv HW0
  generalize hW0 : (((w2.alloc (.cells #[.string nb, .string pb] 86)).alloc (.cells (bytesRow nb (grownCap (w2.alloc (.cells #[.string nb, .string pb] 86)) nb.size 0 5)) 5 ((bytesRow nb (grownCap (w2.alloc (.cells #[.string nb, .string pb] 86)) nb.size 0 5)).size, (bytesRow nb (grownCap (w2.alloc (.cells #[.string nb, .string pb] 86)) nb.size 0 5)).size + 1))).alloc (.cells #[.slice (some ⟨w2.heap.size + 1, 0, none⟩) nb.size (grownCap (w2.alloc (.cells #[.string nb, .string pb] 86)) nb.size 0 5)] 88)).drew = W0 at HW1 ⊢
  clear hW0
  generalize grownCap (w2.alloc (.cells #[.string nb, .string pb] 86)) nb.size 0 5 = cap0 at HW1 ⊢
  have hz2 : w.heap.size < w2.heap.size := block_lt_of_cell x0
  have HW : Hid (_ ∧ _) := HW1
  clear HW1 x0 o0 o1 HX
  generalize w2.heap.size = O at *
  obtain ⟨i0, hi0, hzz0, hzz1, hzz2⟩ := info_parts info5
  go_loopw [23] (fun i wr => ∃ k : Nat, k ≤ pb.size ∧ i = .int .i64 k ∧ Hid (∃ v, Bx w.heap.size (O + 1 + 1) wr (opN o ++ prParts ⟨o, d, a, b, n, []⟩ (pb.data.toList.take k) true) v ∧ Fr w.heap.size (O + 1 + 1) W0 wr)) (fun i _ => pb.size - (intOf i).toNat)
  case atStart => exact ⟨0, Nat.zero_le _, rfl, _, by simpa [prParts] using HW.out.2.2.2, Fr.refl _ _ _⟩
  case round =>
    obtain ⟨k, hk, rfl, hp⟩ := hrel
    obtain ⟨v, hbx, hfr⟩ := hp.out
    have hXr := hfr.keep HW.out.2.1 (by decide) (by omega)
    have hOr := hfr.keep HW.out.2.2.1 (by decide) (by omega)
    have HBx : Hid (Bx w.heap.size (O + 1 + 1) wr (opN o ++ prParts ⟨o, d, a, b, n, []⟩ (pb.data.toList.take k) true) v) := hbx
    have HFr : Hid (Fr w.heap.size (O + 1 + 1) W0 wr) := hfr
    obtain ⟨g, cp, hv⟩ := hbx.own.form
    obtain ⟨m, hm⟩ : ∃ m, m = (opN o ++ prParts ⟨o, d, a, b, n, []⟩ (pb.data.toList.take k) true).length := ⟨_, rfl⟩
    rw [← hm] at hv
    subst hv
    have cb := hbx.box.cell
    have fb := hbx.box.frozen
    have ox : wr.cell? ⟨O, 1, none⟩ = some (.string pb) := by rw [cell_of_row _ _ _ _ _ _ hOr]; rfl
    by_cases hlt : k < pb.size
    · obtain ⟨sp, hsp⟩ : ∃ sp, sp = sepB k := ⟨_, rfl⟩
      have HSEP : Hid (∀ W, Calls Tryz.prog 39 #[.int .i64 k] W fun e w' => e = .returned (.int .u8 (sp.toNat : Int)) ∧ w' = W) := fun W => by rw [hsp]; exact sep_any k W
      have HXr : Hid (wr.heap[w.heap.size]? = some (.cells #[.int .i64 o, .int .i64 d, .int .i64 a, .int .i64 b, .int .i64 n] 39)) := hXr
      have HOr : Hid (wr.heap[O]? = some (.cells #[.string nb, .string pb] 86)) := hOr
      have hsz : w.heap.size ≤ wr.heap.size := Nat.le_of_lt (Array.getElem?_eq_some_iff.1 hXr).1
      have HWo : Hid (OwnB w.heap.size (wr.alloc (.cells #[.int .u8 (sp.toNat : Int)] 5)).drew (.slice (some ⟨g, 0, none⟩) m cp) (opN o ++ prParts ⟨o, d, a, b, n, []⟩ (pb.data.toList.take k) true)) := (HBx.out.own.alloc _).below ⟨rfl, rfl, rfl, Nat.le_refl _, fun _ _ => rfl⟩
      have HNw : Hid (∀ (j : Nat) (x : Value), (Lib.byteCells [sp])[j]? = some x → (wr.alloc (.cells #[.int .u8 (sp.toNat : Int)] 5)).drew.cell? ((⟨wr.heap.size, 0, none⟩ : Addr).add j) = some x) := one_news wr sp
      have HSz : Hid (w.heap.size ≤ (wr.alloc (.cells #[.int .u8 (sp.toNat : Int)] 5)).drew.heap.size) := by show _ ≤ _; simp; omega
      have HKp : Hid (Kp w.heap.size wr (wr.alloc (.cells #[.int .u8 (sp.toNat : Int)] 5)).drew) := ((Kp.refl _ wr).alloc hsz _).drew
      have HLn : Hid ((opN o ++ prParts ⟨o, d, a, b, n, []⟩ (pb.data.toList.take k) true).length + [sp].length ≤ 140737488355328) := by
        have := print_len ⟨o, d, a, b, n, []⟩ HF.out o (by omega) pb hp3 k
        show _ ≤ _
        rw [List.length_singleton]
        omega
      have HSP : Hid (sp = sepB k) := hsp
      have HEND : Hid (∀ w' v', Bx w.heap.size (O + 1 + 1) w' (opN o ++ prParts ⟨o, d, a, b, n, []⟩ (pb.data.toList.take k) true ++ [sp] ++ prPart ⟨o, d, a, b, n, []⟩ pb[k]) v' → Fr w.heap.size (O + 1 + 1) wr w' → Hid (∃ v, Bx w.heap.size (O + 1 + 1) w' (opN o ++ prParts ⟨o, d, a, b, n, []⟩ (pb.data.toList.take (k + 1)) true) v ∧ Fr w.heap.size (O + 1 + 1) W0 w')) := fun w' v' h1 h2 => by
        refine ⟨v', ?_, HFr.out.trans h2⟩
        rw [pr_take _ pb k hlt, ← hsp]
        simpa [List.append_assoc] using h1
      have HKK : Hid (kindOk pb[k] = true) := HK6.out _ (by rw [← HPB.out]; have := drop_at pb k hlt; exact List.mem_of_mem_drop (by rw [this]; simp))
      have HLN : Hid ((opN o ++ prParts ⟨o, d, a, b, n, []⟩ (pb.data.toList.take k) true).length ≤ 200) := print_len ⟨o, d, a, b, n, []⟩ HF.out o (by omega) pb hp3 k
      have HIL : Hid ((Lib.itoa n).length ≤ 21) := Lib.itoa_length_le n hn0 hn1
      have HRL : Hid ((rgB a).length ≤ 22) := by
        have := Lib.itoa_length_le a (by have := HF.out.a; simp only at this; omega) (by have := HF.out.a; simp only at this; omega)
        show _ ≤ _
        simp only [rgB, List.length_cons]
        omega
      have HTr : Hid (Tab w.heap.size wr) := HT.out.on (HW.out.1.trans hfr.low)
      have ca : (wr.alloc (.cells #[.int .u8 (sp.toNat : Int)] 5)).cell? ⟨O + 1 + 1, 0, none⟩ = some (.slice (some ⟨g, 0, none⟩) m cp) := (hbx.box.alloc _).cell
      clear hp hbx hfr hm hXr hOr hsp
      go_wp2_with fail
      go_region_law (first
        | (refine step_app _ rfl (.tmp 26) (.tmp 29) 88 rfl w.heap.size i0 Tryz.underlying88 hi0 hzz0 hzz1 hzz2 (.slice (some ⟨g, 0, none⟩) m cp) _ [sp] (by simp [Act.eval]) HWo.out ⟨wr.heap.size, 0, none⟩ 1 (by simp [Act.eval]) HNw.out HLn.out HSz.out ?_; intro g1 m1 cp1 w1 hown hgrow; have hk1 : Kp w.heap.size wr w1 := HKp.out.grown HSz.out HWo.out hgrow; have cb1 := (hk1.box HBx.out.box).cell; have fb1 := (hk1.box HBx.out.box).frozen; have HE : Hid (_ ∧ _) := bx_store hk1 HBx.out.nB HBx.out.box hown; clear hk1 hown hgrow)
        | (go_simp; go_at_call 39; refine (HSEP.out _).mono ?_; rintro e w' ⟨rfl, rfl⟩; dsimp only))
      all_goals
        have HXw : Hid (_ = _) := HE.out.2.keep HXr.out (by decide) (by omega)
        have HOw : Hid (_ = _) := HE.out.2.keep HOr.out (by decide) (by omega)
        generalize w1.setCell ⟨O + 1 + 1, 0, none⟩ (.slice (some ⟨g1, 0, none⟩) m1 cp1) = w3 at HE HXw HOw ⊢
        have oy : w3.cell? ⟨O, 1, none⟩ = some (.string pb) := by rw [cell_of_row _ _ _ _ _ _ HOw.out]; rfl
        have cb3 := HE.out.1.box.cell
        have fb3 := HE.out.1.box.frozen
        have x1 : w3.cell? ⟨w.heap.size, 1, none⟩ = some (.int .i64 d) := by rw [cell_of_row _ _ _ _ _ _ HXw.out]; rfl
        have x2 : w3.cell? ⟨w.heap.size, 2, none⟩ = some (.int .i64 a) := by rw [cell_of_row _ _ _ _ _ _ HXw.out]; rfl
        have x3 : w3.cell? ⟨w.heap.size, 3, none⟩ = some (.int .i64 b) := by rw [cell_of_row _ _ _ _ _ _ HXw.out]; rfl
        have x4 : w3.cell? ⟨w.heap.size, 4, none⟩ = some (.int .i64 n) := by rw [cell_of_row _ _ _ _ _ _ HXw.out]; rfl
        have HS3 : Hid (w.heap.size ≤ w3.heap.size) := Nat.le_trans hsz HE.out.2.low.size
        have HREG : Hid (∀ r, 0 ≤ r → r < 32 → Calls Tryz.prog 37 #[.int .i64 r, .pointer (some ⟨O + 1 + 1, 0, none⟩)] w3 fun e w' => e = .returned (.tuple #[]) ∧ Hid (∃ v', Bx w.heap.size (O + 1 + 1) w' (opN o ++ prParts ⟨o, d, a, b, n, []⟩ (pb.data.toList.take k) true ++ [sp] ++ rgB r) v' ∧ Fr w.heap.size (O + 1 + 1) wr w')) := fun r h0 h1 =>
          (reg_any w.heap.size (O + 1 + 1) r _ _ w3 h0 h1 HE.out.1 HS3.out (by rw [List.length_append, List.length_singleton]; have := HLN.out; omega) (HTr.out.on HE.out.2.low)).mono fun e w' ⟨h2, v', h3, h4⟩ => ⟨h2, v', h3, HE.out.2.trans h4⟩
        have HAI : Hid (Calls Tryz.prog 38 #[.slice (some ⟨g1, 0, none⟩) m1 cp1, .int .i64 n, .int .i64 10] w3 fun e w' => ∃ g4 m4 c4, e = .returned (.slice (some ⟨g4, 0, none⟩) m4 c4) ∧ w'.cell? ⟨O + 1 + 1, 0, none⟩ = some (.slice (some ⟨g1, 0, none⟩) m1 cp1) ∧ w'.frozen? ⟨O + 1 + 1, 0, none⟩ = false ∧ Hid (OwnB w.heap.size w' (.slice (some ⟨g4, 0, none⟩) m4 c4) (opN o ++ prParts ⟨o, d, a, b, n, []⟩ (pb.data.toList.take k) true ++ [sp] ++ Lib.itoa n) ∧ Kp w.heap.size w3 w')) :=
          (aint_any w.heap.size n hn0 hn1 _ _ w3 HE.out.1.own HS3.out (by rw [List.length_append, List.length_singleton]; have := HLN.out; omega) (HTr.out.on HE.out.2.low)).mono fun e w' ⟨v', h2, h3, h4⟩ => by
            obtain ⟨g4, c4, rfl⟩ := h3.form
            exact ⟨g4, _, c4, h2, (h4.box HE.out.1.box).cell, (h4.box HE.out.1.box).frozen, h3, h4⟩
        clear cb fb ca cb1 fb1 ox HSEP HWo HNw HSz HKp HLn
        have hkk := HKK.out
        simp only [kindOk, Bool.or_eq_true, beq_iff_eq] at hkk
        rcases hkk with ((((h | h) | h) | h) | h) | h
        · have hc : pb[k].toNat = 100 := by rw [h]; rfl
          have HP : Hid (prPart ⟨o, d, a, b, n, []⟩ pb[k] = rgB d) := by show _ = _; rw [h]; rfl
          clear h
          go_wp2_with (go_at_call 37; refine (HREG.out d HF.out.d.1 HF.out.d.2).mono ?_; rintro e w4 ⟨rfl, hq⟩)
          obtain ⟨v4, h4, f4⟩ := hq.out
          rw [← HP.out] at h4
          exact ⟨⟨k + 1, by omega, by go_num, HEND.out w4 v4 h4 f4⟩, by simp [intOf]; omega⟩
        · have hc : pb[k].toNat = 97 := by rw [h]; rfl
          have HP : Hid (prPart ⟨o, d, a, b, n, []⟩ pb[k] = rgB a) := by show _ = _; rw [h]; rfl
          clear h
          go_wp2_with (go_at_call 37; refine (HREG.out a HF.out.a.1 HF.out.a.2).mono ?_; rintro e w4 ⟨rfl, hq⟩)
          obtain ⟨v4, h4, f4⟩ := hq.out
          rw [← HP.out] at h4
          exact ⟨⟨k + 1, by omega, by go_num, HEND.out w4 v4 h4 f4⟩, by simp [intOf]; omega⟩
        · have hc : pb[k].toNat = 98 := by rw [h]; rfl
          have HP : Hid (prPart ⟨o, d, a, b, n, []⟩ pb[k] = rgB b) := by show _ = _; rw [h]; rfl
          clear h
          go_wp2_with (go_at_call 37; refine (HREG.out b HF.out.b.1 HF.out.b.2).mono ?_; rintro e w4 ⟨rfl, hq⟩)
          obtain ⟨v4, h4, f4⟩ := hq.out
          rw [← HP.out] at h4
          exact ⟨⟨k + 1, by omega, by go_num, HEND.out w4 v4 h4 f4⟩, by simp [intOf]; omega⟩
        · have hc : pb[k].toNat = 40 := by rw [h]; rfl
          have HP : Hid (prPart ⟨o, d, a, b, n, []⟩ pb[k] = Lib.itoa n ++ [40] ++ rgB a ++ [41]) := by show _ = _; rw [h]; simp [prPart, rgB]
          clear h
          go_wp2_with (go_at_call 38; fail)
          refine HAI.out.mono ?_
          rintro e w4 ⟨g4, m4, c4, rfl, cb4, fb4, hq⟩
          have HI4 : Hid ((opN o ++ prParts ⟨o, d, a, b, n, []⟩ (pb.data.toList.take k) true ++ [sp] ++ Lib.itoa n).length ≤ 222) := by
            show _ ≤ _
            have h1 := HLN.out
            have h2 := HIL.out
            rw [List.length_append, List.length_append, List.length_singleton]
            omega
          generalize hL4 : opN o ++ prParts ⟨o, d, a, b, n, []⟩ (pb.data.toList.take k) true ++ [sp] ++ Lib.itoa n = L4 at hq HI4
          have HQ4 : Hid (opN o ++ prParts ⟨o, d, a, b, n, []⟩ (pb.data.toList.take k) true ++ [sp] ++ Lib.itoa n = L4) := hL4
          clear hL4
          have HS4 : Hid (w.heap.size ≤ w4.heap.size) := Nat.le_trans HS3.out hq.out.2.low.size
          have HO4 : Hid (OwnB w.heap.size (w4.alloc (.cells #[.int .u8 40] 5)) (.slice (some ⟨g4, 0, none⟩) m4 c4) L4) := hq.out.1.alloc _
          have HN4 : Hid (∀ (j : Nat) (x : Value), (Lib.byteCells [40])[j]? = some x → (w4.alloc (.cells #[.int .u8 40] 5)).cell? ((⟨w4.heap.size, 0, none⟩ : Addr).add j) = some x) := one_news w4 40
          have HZ4 : Hid (w.heap.size ≤ (w4.alloc (.cells #[.int .u8 40] 5)).heap.size) := by show _ ≤ _; have := HS4.out; simp; omega
          have HL4 : Hid (L4.length + [(40 : UInt8)].length ≤ 140737488355328) := by
            show _ ≤ _
            have h1 := HI4.out
            rw [List.length_singleton]
            omega
          have HK4 : Hid (Kp w.heap.size w3 (w4.alloc (.cells #[.int .u8 40] 5))) := hq.out.2.alloc HS4.out _
          clear hq
          go_wp2_with (at_builtin; refine wpl_app _ rfl _ _ 88 rfl w.heap.size i0 Tryz.underlying88 hi0 hzz0 hzz1 hzz2 _ _ [40] rfl HO4.out ⟨w4.heap.size, 0, none⟩ 1 rfl HN4.out HL4.out HZ4.out ?_)
          intro v5 w5 hown5 hgrow5
          have hk5 : Kp w.heap.size w3 w5 := HK4.out.grown HZ4.out HO4.out hgrow5
          have cb5 := (hk5.box HE.out.1.box).cell
          have fb5 := (hk5.box HE.out.1.box).frozen
          obtain ⟨g5, c5, ev5⟩ := hown5.form
          generalize (L4 ++ [40]).length = m5 at ev5
          subst ev5
          have HE5 : Hid (_ ∧ _) := bx_store hk5 HE.out.1.nB HE.out.1.box hown5
          have x25 : (w5.setCell ⟨O + 1 + 1, 0, none⟩ (.slice (some ⟨g5, 0, none⟩) m5 c5)).cell? ⟨w.heap.size, 2, none⟩ = some (.int .i64 a) := by rw [cell_of_row _ _ _ _ _ _ (HE5.out.2.keep HXw.out (by decide) (by omega))]; rfl
          have x25' : w5.cell? ⟨w.heap.size, 2, none⟩ = some (.int .i64 a) := by
            rw [World.cell?_setCell_other _ _ _ _ (by intro h; injection h with h1 h2; omega)] at x25
            exact x25
          clear hk5 hown5 hgrow5 cb4 fb4
          have HREG5 : Hid (Calls Tryz.prog 37 #[.int .i64 a, .pointer (some ⟨O + 1 + 1, 0, none⟩)] (w5.setCell ⟨O + 1 + 1, 0, none⟩ (.slice (some ⟨g5, 0, none⟩) m5 c5)) fun e w' => e = .returned (.tuple #[]) ∧ ∃ v', Bx w.heap.size (O + 1 + 1) w' (L4 ++ [40] ++ rgB a) v' ∧ Fr w.heap.size (O + 1 + 1) (w5.setCell ⟨O + 1 + 1, 0, none⟩ (.slice (some ⟨g5, 0, none⟩) m5 c5)) w') :=
            reg_any w.heap.size (O + 1 + 1) a _ _ _ HF.out.a.1 HF.out.a.2 HE5.out.1 (Nat.le_trans HS3.out HE5.out.2.low.size) (by
              have h1 := HI4.out
              rw [List.length_append, List.length_singleton]
              omega) (HTr.out.on (HE.out.2.low.trans HE5.out.2.low))
          go_wp2_with (go_at_call 37; fail)
          refine HREG5.out.mono ?_
          rintro e w6 ⟨rfl, v6, hb6, hf6⟩
          have HI6 : Hid ((L4 ++ [40] ++ rgB a).length ≤ 245) := by
            show _ ≤ _
            have h1 := HI4.out
            have h3 := HRL.out
            rw [List.length_append, List.length_append, List.length_singleton]
            omega
          generalize hL6 : L4 ++ [40] ++ rgB a = L6 at hb6 HI6
          have HQ6 : Hid (L4 ++ [40] ++ rgB a = L6) := hL6
          clear hL6
          have HF6 : Hid (Fr w.heap.size (O + 1 + 1) w3 w6) := HE5.out.2.trans hf6
          have HB6 : Hid (Bx w.heap.size (O + 1 + 1) w6 L6 v6) := hb6
          obtain ⟨g6, c6, ev6⟩ := hb6.own.form
          generalize L6.length = m6 at ev6
          subst ev6
          have cb6 := hb6.box.cell
          have fb6 := hb6.box.frozen
          clear hb6 hf6 HREG5 HE5 x25 x25' cb5 fb5
          have HS6 : Hid (w.heap.size ≤ w6.heap.size) := Nat.le_trans HS3.out HF6.out.low.size
          have HO6 : Hid (OwnB w.heap.size (w6.alloc (.cells #[.int .u8 41] 5)) (.slice (some ⟨g6, 0, none⟩) m6 c6) L6) := HB6.out.own.alloc _
          have HN6 : Hid (∀ (j : Nat) (x : Value), (Lib.byteCells [41])[j]? = some x → (w6.alloc (.cells #[.int .u8 41] 5)).cell? ((⟨w6.heap.size, 0, none⟩ : Addr).add j) = some x) := one_news w6 41
          have HZ6 : Hid (w.heap.size ≤ (w6.alloc (.cells #[.int .u8 41] 5)).heap.size) := by show _ ≤ _; have := HS6.out; simp; omega
          have HL6 : Hid (L6.length + [(41 : UInt8)].length ≤ 140737488355328) := by
            show _ ≤ _
            have h1 := HI6.out
            rw [List.length_singleton]
            omega
          have HK6' : Hid (Kp w.heap.size w6 (w6.alloc (.cells #[.int .u8 41] 5))) := (Kp.refl _ _).alloc HS6.out _
          go_wp2_with (at_builtin; refine wpl_app _ rfl _ _ 88 rfl w.heap.size i0 Tryz.underlying88 hi0 hzz0 hzz1 hzz2 _ _ [41] rfl HO6.out ⟨w6.heap.size, 0, none⟩ 1 rfl HN6.out HL6.out HZ6.out ?_)
          intro v7 w7 hown7 hgrow7
          have hk7 : Kp w.heap.size w6 w7 := HK6'.out.grown HZ6.out HO6.out hgrow7
          have cb7 := (hk7.box HB6.out.box).cell
          have fb7 := (hk7.box HB6.out.box).frozen
          obtain ⟨g7, c7, ev7⟩ := hown7.form
          generalize (L6 ++ [41]).length = m7 at ev7
          subst ev7
          have HE7 : Hid (_ ∧ _) := bx_store hk7 HB6.out.nB HB6.out.box hown7
          clear hk7 hown7 hgrow7
          go_wp2
          have h7 := HE7.out.1
          have e7 : L6 ++ [41] = opN o ++ prParts ⟨o, d, a, b, n, []⟩ (pb.data.toList.take k) true ++ [sp] ++ prPart ⟨o, d, a, b, n, []⟩ pb[k] := by rw [HP.out, ← HQ6.out, ← HQ4.out]; simp only [List.append_assoc]
          rw [e7] at h7
          exact ⟨⟨k + 1, by omega, by go_num, HEND.out _ _ h7 (HE.out.2.trans (HF6.out.trans HE7.out.2))⟩, by simp [intOf]; omega⟩
        · have hc : pb[k].toNat = 58 := by rw [h]; rfl
          have HP : Hid (prPart ⟨o, d, a, b, n, []⟩ pb[k] = Lib.itoa n) := by show _ = _; rw [h]; rfl
          clear h
          go_wp2_with (go_at_call 38; refine HAI.out.mono ?_; rintro e w4 ⟨g4, m4, c4, rfl, cb4, fb4, hq⟩)
          have hE := bx_store hq.out.2 HE.out.1.nB HE.out.1.box hq.out.1
          rw [← HP.out] at hE
          exact ⟨⟨k + 1, by omega, by go_num, HEND.out _ _ hE.1 (HE.out.2.trans hE.2)⟩, by simp [intOf]; omega⟩
        · have hc : pb[k].toNat = 110 := by rw [h]; rfl
          have HP : Hid (prPart ⟨o, d, a, b, n, []⟩ pb[k] = Lib.itoa n) := by show _ = _; rw [h]; rfl
          clear h
          go_wp2_with (go_at_call 38; refine HAI.out.mono ?_; rintro e w4 ⟨g4, m4, c4, rfl, cb4, fb4, hq⟩)
          have hE := bx_store hq.out.2 HE.out.1.nB HE.out.1.box hq.out.1
          rw [← HP.out] at hE
          exact ⟨⟨k + 1, by omega, by go_num, HEND.out _ _ hE.1 (HE.out.2.trans hE.2)⟩, by simp [intOf]; omega⟩
    · obtain rfl : k = pb.size := by omega
      have e1 : pb.data.toList.take pb.size = opP o := by
        rw [← HPB.out]
        exact List.take_of_length_le (by simp)
      have e2 : opN o ++ prParts ⟨o, d, a, b, n, []⟩ (opP o) true = prV ⟨o, d, a, b, n, []⟩ := rfl
      rw [e1, e2] at hm
      have hown := hbx.own
      rw [e1, e2] at hown
      have hcv : (convert 88 9 (.slice (some ⟨g, 0, none⟩) m cp)).run Tryz.prog wr = .ok (str (prV ⟨o, d, a, b, n, []⟩)) wr := by
        rw [hm]
        refine run_convert_bytes_back wr 88 9 5 ⟨g, 0, none⟩ cp _ Tryz.underlying88 Tryz.underlying5 Tryz.underlying9 fun j hj => ?_
        refine hown.cells j _ ?_
        simp [Lib.byteCells, hj]
      have HBf : Hid (Below w.heap.size w wr) := HW.out.1.trans hfr.low
      clear hm e1 e2 hown hbx hfr hp HBx hXr hOr
      go_wp2
      go_ret2
      exact ⟨rfl, HBf.out⟩
end Go.Proofs.YtjjjdplgdlaihaaGreatDoor
