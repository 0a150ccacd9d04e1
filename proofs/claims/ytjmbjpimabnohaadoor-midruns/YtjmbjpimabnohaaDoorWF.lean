/- MidRuns, walked. -/
import Derived.Test.YtjmbjpimabnohaaDoorWE
import Derived.Test.YtjmbjpimabnohaaDoorUV
import Derived.Test.YtjmbjpimabnohaaDoorUJ
namespace Go.Proofs.YtjmbjpimabnohaaDoor.Mid
set_option linter.unusedVariables false
set_option linter.unusedSimpArgs false
open Go Go.RowKit

/-- An append whose run is known, where its guard lets it run. -/
theorem wpl_run_append_w {P : Program} (w : World) {ops : Array Oper} {rest : List Oper} {o : Oper} {a : Act} {Q : Exit → Act → World → Prop} (hw : Region.wanted o (yielded ops a.tmps) = true) (s x : Operand) (t tx : TypeId)
    (ho : o.op = .call { callee := .builtin .append, args := #[s, x], argTypes := #[t, tx] }) {v xv v' : Value} {w' : World} (hv : a.eval s = v) (hx : a.eval x = xv)
    (hrun : (Builtin.append_ #[t, tx] o.type #[v, xv]).run P w = .ok v' w') (hK : wpList P ops Q rest (a.put o.dst v') w') : wpList P ops Q (o :: rest) a w := by
  refine wpList_step fun K hK' => ?_
  rw [if_pos hw]
  unfold Oper.wp
  simp [execOp, ho, resolve, invoke, builtin, hv, hx, hrun, Result.andThen]
  exact hK' _ _ hK
theorem rn_in {r : Int × Int × List Int} {w w' : World} {p : Option Addr} {c : Nat} (h : w'.ownsRow w.heap.size 2 1 (.slice p r.2.2.length c) r.2.2.length (ints r.2.2)) : InW w' (.slice p r.2.2.length c) r.2.2 ∧ r.2.2.length ≤ 9223372036854775807 := by
  refine ⟨InW.of_own h, ?_⟩
  rcases h.2 with ⟨_, e⟩ | ⟨g, cap, cur, _, _, _, hc, hle, _⟩
  · omega
  · unfold maxLen at hle
    omega
/-- How many steps the first functions have. -/
def stI (L : List Mf) (i : Nat) : Nat := stepsV (L.take i)
theorem stI_s {L : List Mf} {i : Nat} {F : Mf} (h : L[i]? = some F) : stI L (i + 1) = stI L i + F.steps.length := by unfold stI; rw [take_snoc h, steps_snoc]
theorem stI_le {L : List Mf} (h : ∀ F ∈ L, F.steps.length ≤ 60) : ∀ i, stI L i ≤ i * 60
  | 0 => by simp [stI, stepsV]
  | i + 1 => by
    have ih := stI_le h i
    cases e : L[i]? with
    | none =>
      have : L.take (i + 1) = L.take i := by
        rw [List.take_of_length_le (by have := List.getElem?_eq_none_iff.1 e; omega), List.take_of_length_le (List.getElem?_eq_none_iff.1 e)]
      unfold stI at ih ⊢
      rw [this]
      omega
    | some F =>
      rw [stI_s e]
      have := h F (List.mem_of_getElem? e)
      omega
set_option maxRecDepth 100000 in
set_option maxHeartbeats 8000000 in
theorem midRuns_any (w : World) (ql : Option Addr) (cl : Nat) (L : List Mf) (h : RowRw w ql cl L) (hfm : FmE w) (hmk : MkE w) (hmx : ∃ m, w.cell? ⟨3, 0, none⟩ = some (.int .i64 m)) (iv : Value) (inp : List Int) (hin : InW w iv inp) (hI : ∀ x ∈ inp, I64 x) (fuel : Int) (hfu : I64 fuel) (y : ByteArray) (a b : Int) (ha : I64 a) (hb : I64 b) :
    Calls Tryd.prog 3 #[.slice ql L.length cl, iv, .int .i64 fuel, .string y, .int .i64 a, .int .i64 b] w fun e w' => e = .returned (.bool true) ∧ Below w.heap.size w w' := by
  obtain ⟨qi, ci, rfl, hin'⟩ := id hin
  obtain ⟨ni, hni⟩ : ∃ ni, inp.length = ni := ⟨_, rfl⟩
  rw [hni] at hin ⊢
  have HIn : Hid (InW w (.slice qi ni ci) inp ∧ (∀ x ∈ inp, I64 x)) := ⟨hin, hI⟩
  obtain ⟨nl, hnl⟩ : ∃ nl, L.length = nl := ⟨_, rfl⟩
  rw [hnl]
  have HNl : Hid (L.length = nl) := hnl
  have HR : Hid (RowRw w ql cl L) := h
  have HEn : Hid (FmE w ∧ MkE w ∧ ∃ m, w.cell? ⟨3, 0, none⟩ = some (.int .i64 m)) := ⟨hfm, hmk, hmx⟩
  have HCo : Hid (Calls Tryd.prog 5 #[.slice ql nl cl] w (CoP w ql cl L)) := by have := lawcode_any w ql cl L h; rw [hnl] at this; exact this
  obtain ⟨b1, hb1⟩ : ∃ b1, (bothV y.data.toList a b).1 = b1 := ⟨_, rfl⟩
  obtain ⟨b2, hb2⟩ : ∃ b2, (bothV y.data.toList a b).2 = b2 := ⟨_, rfl⟩
  have HBd : Hid (∀ W, Calls Tryd.prog 6 #[.string y, .int .i64 a, .int .i64 b] W (fun e w' => e = .returned (.tuple #[.int .i64 b1, .int .i64 b2]) ∧ Below W.heap.size W w')) := fun W => by
    refine (bothD_any y a b W ha.1 ha.2 hb.1 hb.2).mono ?_
    rintro e w' ⟨rfl, n, rfl⟩
    rw [hb1, hb2]
    exact ⟨rfl, drewN_bel _ _⟩
  have HBo : Hid (∀ W, Calls Tryd.prog 7 #[.string y, .int .i64 a, .int .i64 b] W (fun e w' => e = .returned (.tuple #[.int .i64 b1, .int .i64 b2]) ∧ w' = W)) := fun W => by
    refine (both_any y a b W).mono ?_
    rintro e w' ⟨rfl, rfl⟩
    rw [hb1, hb2]
    exact ⟨rfl, rfl⟩
  have hfu1 := hfu.1
  have hfu2 := hfu.2
  clear h hfm hmk hmx hin hin' hI hfu ha hb hni hnl hb1 hb2
  generalize hG : (fun e w' => e = Ending.returned (.bool true) ∧ Below w.heap.size w w') = G
  have HG : Hid (∀ W, Below w.heap.size w W → G (.returned (.bool true)) W) := fun W hb => by rw [← hG]; exact ⟨rfl, hb⟩
  clear hG
  go_enter Tryd.func3, Tryd.ntmps3
  go_wp2_with (go_at_call 5; fail)
  refine HCo.out.mono ?_
  rintro e w1 (⟨rfl, hb1⟩ | ⟨cb, q, c, rfl, h15, hsm, hcode, hrow, hb1⟩)
  · have HX : Hid (G (.returned (.bool true)) w1) := HG.out w1 hb1
    clear hb1
    go_wp2
    exact HX.out
  have HW1 : Hid (Below w.heap.size w w1 ∧ CodeAt w1 cb ql cl L ∧ RowAt w1 q c L ∧ (∀ F ∈ L, smallF F)) := ⟨hb1, hcode, hrow, hsm⟩
  rw [HNl.out] at h15 ⊢
  clear hb1 hcode hrow hsm
  by_cases h20 : 20 < ni
  · have HX : Hid (G (.returned (.bool true)) w1) := HG.out w1 HW1.out.1
    go_wp2
    exact HX.out
  by_cases h21 : 20 < y.size
  · have HX : Hid (G (.returned (.bool true)) w1) := HG.out w1 HW1.out.1
    go_wp2
    exact HX.out
  go_wp2_with (go_at_call 6; fail)
  refine (HBd.out w1).mono ?_
  rintro e w2 ⟨rfl, hb2⟩
  have HW2 : Hid (Below w1.heap.size w1 w2) := hb2
  clear hb2
  go_wp2_with (go_at_call 7; refine (HBo.out _).mono ?_; rintro e w' ⟨rfl, rfl⟩)
  have HB2 : Hid (Below w.heap.size w w' ∧ CodeAt w' cb ql cl L ∧ RowAt w' q c L) := ⟨HW1.out.1.trans (HW2.out.mono HW1.out.1.size), HW1.out.2.1.below HW2.out, HW1.out.2.2.1.below HW2.out⟩
  refine (Right_any w' cb ql cl L HB2.out.2.1 (HEn.out.1.below HB2.out.1) (HEn.out.2.1.below HB2.out.1)).mono ?_
  rintro e w3 ⟨rfl, hb3⟩
  have HB3 : Hid (Below w.heap.size w w3 ∧ CodeAt w3 cb ql cl L ∧ RowAt w3 q c L) := ⟨HB2.out.1.trans (hb3.mono HB2.out.1.size), HB2.out.2.1.below hb3, HB2.out.2.2.below hb3⟩
  have HRc : Hid (Calls Tryd.prog 9 #[.slice q nl c] w3 (LkP (rightV L) w3)) := by
    have hm : ∃ m, w3.cell? ⟨3, 0, none⟩ = some (.int .i64 m) := by
      obtain ⟨m, hm⟩ := HEn.out.2.2
      exact ⟨m, by rw [HB3.out.1.cell (p := ⟨3, 0, none⟩) (cell_lt hm)]; exact hm⟩
    have := RightCode_any w3 q c L HB3.out.2.2 hm
    rw [HNl.out] at this
    exact this
  generalize rightV L = rv at HRc ⊢
  clear hb3 HW2
  go_wp2_with (go_at_call 9; fail)
  refine HRc.out.mono ?_
  rintro e w4 ⟨rfl, hb4⟩
  have HB4 : Hid (Below w.heap.size w w4 ∧ CodeAt w4 cb ql cl L ∧ RowAt w4 q c L) := ⟨HB3.out.1.trans (hb4.mono HB3.out.1.size), HB3.out.2.1.below hb4, HB3.out.2.2.below hb4⟩
  clear hb4
  have hrv : (rv == rv) = true := by simp
  have hrv2 : (rv != rv) = false := by simp
  go_wp2_with fail
  go_loopw [20, 21] (fun v i wr => ∃ k : Nat, k ≤ nl ∧ i = .int .i64 k ∧ v = .int .i64 ((stI L k : Nat) : Int) ∧ Hid (wr = w4)) (fun _ i _ => nl - (intOf i).toNat)
  case atStart => exact ⟨0, Nat.zero_le _, rfl, by simp [stI, stepsV], rfl⟩
  case round =>
    obtain ⟨k, hkn, rfl, rfl, HWr⟩ := hrel
    obtain rfl := HWr.out
    clear HWr
    have hsl : stI L k ≤ k * 60 := stI_le (fun F hF => (HW1.out.2.2.2 F hF).1) k
    by_cases hlt : k < nl
    · obtain ⟨F, hF⟩ : ∃ F, L[k]? = some F := ⟨L[k]'(by have := HNl.out; omega), List.getElem?_eq_getElem _⟩
      obtain ⟨g0, p0, rfl, hfn⟩ : ∃ g p, ql = some ⟨g, p, none⟩ ∧ ∀ j F, L[j]? = some F → FnRw w g (p + j * 4) F := by
        rcases HR.out.2 with h | h
        · rw [h] at hF; simp at hF
        · exact h
      obtain ⟨q3, c3, hc3, hl3, -⟩ := (hfn k F hF).c3
      have HS : Hid (stI L (k + 1) = stI L k + F.steps.length) := stI_s hF
      have h60 : F.steps.length ≤ 60 := (HW1.out.2.2.2 F (List.mem_of_getElem? hF)).1
      obtain ⟨ns, hns⟩ : ∃ ns, F.steps.length = ns := ⟨_, rfl⟩
      rw [hns] at hc3 hl3 h60 HS
      have u3 : wr.cell? ⟨g0, p0 + k * 4 + 3, none⟩ = some (.slice q3 ns c3) := by rw [HB4.out.1.cell (p := ⟨g0, p0 + k * 4 + 3, none⟩) (cell_lt hc3)]; exact hc3
      generalize hst : stI L k = st at HS hsl ⊢
      clear hF hfn hc3 hns
      go_wp2
      exact ⟨⟨k + 1, by omega, by go_num, by rw [HS.out]; simp, by trivial⟩, by simp [intOf]; omega⟩
    · have hke : k = nl := by omega
      subst hke
      have hall : stI L k = stepsV L := by unfold stI; rw [← HNl.out, List.take_length]
      rw [hall] at hsl ⊢
      generalize hst : stepsV L = st at hsl ⊢
      have HSt : Hid (stepsV L = st) := hst
      clear hall hst
      have HStp : Hid (Calls Tryd.prog 10 #[ptr cb] wr (NmP st wr)) := by
        have := Steps_any wr cb ql cl L HB4.out.2.1
        rw [HSt.out] at this
        exact this
      go_wp2_with (go_at_call 10; fail)
      generalize hf2 : min fuel 2000 = f2
      have hf3 : -9223372036854775808 ≤ f2 ∧ f2 ≤ 2000 := by omega
      refine HStp.out.mono ?_
      rintro e w5 ⟨rfl, hb5⟩
      have HB5 : Hid (Below w.heap.size w w5 ∧ CodeAt w5 cb ql cl L ∧ RowAt w5 q c L) := ⟨HB4.out.1.trans (hb5.mono HB4.out.1.size), HB4.out.2.1.below hb5, HB4.out.2.2.below hb5⟩
      obtain ⟨⟨r1, r2, r3⟩, hrun⟩ : ∃ r, runV (f2.toNat + 1) L inp f2 = r := ⟨_, rfl⟩
      have HRun : Hid (runV (f2.toNat + 1) L inp f2 = (r1, r2, r3)) := hrun
      obtain ⟨p6, c6, W6, hrun6, hi6, hbb6⟩ := app_run w5 qi ni ci inp (HIn.out.1.below HB5.out.1) (by omega)
      have HR6 : Hid ((Builtin.append_ #[23, 23] 23 #[.slice (some ⟨w5.heap.size, 0, none⟩) 0 0, .slice qi ni ci]).run Tryd.prog (w5.alloc (.cells #[] 2)) = .ok (.slice p6 ni c6) W6) := hrun6
      have HB6 : Hid (Below w.heap.size w W6 ∧ CodeAt W6 cb ql cl L ∧ RowAt W6 q c L) := ⟨HB5.out.1.trans (hbb6.mono HB5.out.1.size), HB5.out.2.1.below hbb6, HB5.out.2.2.below hbb6⟩
      have HRu : Hid (Calls Tryd.prog 12 #[ptr cb, .slice p6 ni c6, .int .i64 f2] W6 (RnP (r1, r2, r3) W6)) := by
        have := Run_any W6 cb ql cl L (.slice p6 ni c6) inp f2 (f2.toNat + 1) HB6.out.2.1 (HEn.out.1.below HB6.out.1) (HEn.out.2.1.below HB6.out.1) hi6 (by omega) (by omega)
        rw [HRun.out] at this
        exact this
      clear hb5 hrun hrun6 hi6 hbb6 hf2 HStp
      go_wp2_with (first | (at_builtin; refine wpl_run_append_w _ (by rfl) _ _ 23 23 rfl rfl rfl HR6.out ?_) | (go_at_call 12; fail))
      refine HRu.out.mono ?_
      rintro e w7 ⟨p7, c7, rfl, hown7, hb7⟩
      dsimp only at hown7 ⊢
      obtain ⟨n7, hn7⟩ : ∃ n7, r3.length = n7 := ⟨_, rfl⟩
      have HI7 : Hid (InW w7 (.slice p7 r3.length c7) r3 ∧ r3.length ≤ 9223372036854775807) := rn_in (r := (r1, r2, r3)) hown7
      have HB7 : Hid (Below w.heap.size w w7 ∧ CodeAt w7 cb ql cl L ∧ RowAt w7 q c L) := ⟨HB6.out.1.trans (hb7.mono HB6.out.1.size), HB6.out.2.1.below hb7, HB6.out.2.2.below hb7⟩
      obtain ⟨p8, c8, W8, hrun8, hi8, hbb8⟩ := app_run w7 qi ni ci inp (HIn.out.1.below HB7.out.1) (by omega)
      have HR8 : Hid ((Builtin.append_ #[23, 23] 23 #[.slice (some ⟨w7.heap.size, 0, none⟩) 0 0, .slice qi ni ci]).run Tryd.prog (w7.alloc (.cells #[] 2)) = .ok (.slice p8 ni c8) W8) := hrun8
      have HB8 : Hid (Below w.heap.size w W8 ∧ RowAt W8 q c L ∧ InW W8 (.slice p7 r3.length c7) r3) := ⟨HB7.out.1.trans (hbb8.mono HB7.out.1.size), HB7.out.2.2.below hbb8, HI7.out.1.below hbb8⟩
      have HRd : Hid (Calls Tryd.prog 13 #[.slice q k c, .slice p8 ni c8, .int .i64 f2] W8 (RnP (r1, r2, r3) W8)) := by
        have hm : ∃ m, W8.cell? ⟨3, 0, none⟩ = some (.int .i64 m) := by
          obtain ⟨m, hm⟩ := HEn.out.2.2
          exact ⟨m, by rw [HB8.out.1.cell (p := ⟨3, 0, none⟩) (cell_lt hm)]; exact hm⟩
        have := RunCode_any W8 q c L (.slice p8 ni c8) inp f2 (f2.toNat + 1) HB8.out.2.1 hm hi8 HIn.out.2 (by omega) (by omega)
        rw [HRun.out, HNl.out] at this
        exact this
      rw [hn7] at HI7 HB8 ⊢
      have HN7 : Hid (r3.length = n7) := hn7
      clear hown7 hb7 hrun8 hi8 hbb8 hn7
      go_wp2_with (first | (at_builtin; refine wpl_run_append_w _ (by rfl) _ _ 23 23 rfl rfl rfl HR8.out ?_) | (go_at_call 13; fail))
      refine HRd.out.mono ?_
      rintro e w9 ⟨p9, c9, rfl, hown9, hb9⟩
      dsimp only at hown9 ⊢
      have HI9 : Hid (InW w9 (.slice p9 r3.length c9) r3 ∧ r3.length ≤ 9223372036854775807) := rn_in (r := (r1, r2, r3)) hown9
      have HB9 : Hid (Below w.heap.size w w9 ∧ InW w9 (.slice p7 n7 c7) r3) := ⟨HB8.out.1.trans (hb9.mono HB8.out.1.size), HB8.out.2.2.below hb9⟩
      rw [HN7.out] at HI9 ⊢
      have HSe : Hid (Calls Tryd.prog 11 #[.agg #[.int .i64 r1, .int .i64 r2, .slice p7 n7 c7], .agg #[.int .i64 r1, .int .i64 r2, .slice p9 n7 c9]] w9 fun e w' => e = .returned (.bool true) ∧ Below w9.heap.size w9 w') := sameEnd_any w9 r1 r2 p7 p9 n7 c7 c9 r3 HB9.out.2 HI9.out.1 (by rw [HN7.out]; exact HI9.out.2)
      clear hown9 hb9
      go_wp2_with (go_at_call 11; fail)
      refine HSe.out.mono ?_
      rintro e w10 ⟨rfl, hb10⟩
      have HX : Hid (G (.returned (.bool true)) w10) := HG.out w10 (HB9.out.1.trans (hb10.mono HB9.out.1.size))
      clear hb10
      go_wp2
      exact HX.out
end Go.Proofs.YtjmbjpimabnohaaDoor.Mid
