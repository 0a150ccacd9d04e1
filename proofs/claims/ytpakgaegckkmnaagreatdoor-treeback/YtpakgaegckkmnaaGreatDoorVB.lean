/- printParams walked. -/
import Derived.Test.YtpakgaegckkmnaaGreatDoorV9
namespace Go.Proofs.YtpakgaegckkmnaaGreatDoor
set_option linter.unusedVariables false
set_option linter.unusedSimpArgs false
open Go Go.RowKit

/-- A parameter, parameters, written. -/
def paO (x : By × Int) : By := (x.1 ++ [58, 32]) ++ (if x.2 = 2 then [97, 114, 114] else [105, 110, 116])
def paT : List (By × Int) → By
  | [] => []
  | [x] => paO x
  | x :: y :: xs => paO x ++ [44, 32] ++ paT (y :: xs)
theorem paT_snoc (x : By × Int) : ∀ l, paT (l ++ [x]) = paT l ++ (if l = [] then [] else [44, 32]) ++ paO x
  | [] => by simp [paT]
  | [y] => by simp [paT]
  | y :: z :: l => by
    have ih := paT_snoc x (z :: l)
    simp only [List.cons_append, paT] at ih ⊢
    rw [ih]
    simp
theorem paT_len : ∀ (xs : List (By × Int)) (i : Nat), (paT (xs.take i)).length ≤ (paT xs).length
  | [], i => by simp [paT]
  | [x], 0 => by simp [paT]
  | [x], i + 1 => by simp [paT]
  | x :: y :: xs, 0 => by simp [paT]
  | x :: y :: xs, 1 => by simp [paT]
  | x :: y :: xs, i + 2 => by
    have ih := paT_len (y :: xs) (i + 1)
    simp only [List.take_succ_cons, paT, List.length_append] at ih ⊢
    omega
theorem psC_get : ∀ (xs : List (By × Int)) (i : Nat) (x : By × Int), xs[i]? = some x → (psC xs)[i * 2]? = some (str x.1) ∧ (psC xs)[i * 2 + 1]? = some (.int .i64 x.2)
  | [], i, x, h => by simp at h
  | y :: xs, 0, x, h => by
    simp at h
    subst h
    exact ⟨rfl, rfl⟩
  | y :: xs, i + 1, x, h => by
    have ih := psC_get xs i x (by simpa using h)
    rw [show (i + 1) * 2 = i * 2 + 2 by omega, show i * 2 + 2 + 1 = i * 2 + 1 + 2 by omega]
    exact ih

set_option maxRecDepth 100000 in
set_option maxHeartbeats 4000000 in
theorem pp_walk {xs : List (By × Int)} (S : Nat → Prop) (B b : Nat) (s : By) (w : World) (v : Value) (he : EnvW B w) (hb : Bd B b s w) (hr : RowS S w 83 2 v xs.length (psC xs)) (hx6 : xs.length ≤ 1000000) (hl : s.length + (paT xs).length ≤ 100000000000) :
    Calls Tryz.prog 18 #[.pointer (some ⟨b, 0, none⟩), v] w (WPost B b s (paT xs) w) := by
  obtain ⟨q, c, rfl⟩ := own_slice hr.1
  have HE : Hid (EnvW B w) := he
  have HB : Hid (Bd B b s w) := hb
  have HR : Hid (RowS S w 83 2 (.slice q xs.length c) xs.length (psC xs)) := hr
  have HL : Hid (s.length + (paT xs).length ≤ 100000000000) := hl
  have HPo : Hid (∀ w', Bd B b (s ++ paT xs) w' → FrB B b w w' → WPost B b s (paT xs) w (.returned (.tuple #[])) w') := fun w' h1 h2 => ⟨rfl, h1, h2⟩
  generalize hG : WPost B b s (paT xs) w = G at *
  have hi0 : Hid (Bd B b (s ++ paT (xs.take 0)) w ∧ FrB B b w w) := ⟨by simpa [paT] using hb, FrB.refl _ _ _⟩
  obtain ⟨n, hn⟩ : ∃ n, n = xs.length := ⟨_, rfl⟩
  have HN : Hid (n = xs.length) := hn
  rw [← hn] at HR hx6 ⊢
  clear he hb hr hl hG hn
  go_enter Tryz.func18, Tryz.ntmps18
  go_wp2_with fail
  go_loopw [8] (fun v wr => ∃ i : Nat, i ≤ n ∧ v = .int .i64 i ∧ Hid (Bd B b (s ++ paT (xs.take i)) wr ∧ FrB B b w wr)) (fun v _ => n - (intOf v).toNat)
  case atStart => exact ⟨0, Nat.zero_le _, rfl, hi0.out⟩
  case round =>
    clear hi0
    obtain ⟨i, hin, rfl, HI⟩ := hrel
    by_cases hlt : i < n
    · obtain ⟨g, cap, e, -, -⟩ := HR.out.1.form (by omega)
      injection e with e1 e2 e3
      subst e1
      clear e2 e3
      obtain ⟨x, hx⟩ : ∃ x, xs[i]? = some x := ⟨xs[i]'(by have := HN.out; omega), List.getElem?_eq_getElem (by have := HN.out; omega)⟩
      obtain ⟨hc0, hc1⟩ := psC_get xs i x hx
      obtain ⟨y, hy, hyt⟩ := str_y x.1
      have hyz : y.size = x.1.length := by rw [← hyt]; simp
      have HY : Hid (y.data.toList = x.1 ∧ y.size = x.1.length) := ⟨hyt, hyz⟩
      rw [hy] at hc0
      have hrow := (HI.out.2.keeps (fun _ => True) HB.out).row (by decide) HR.out.1 (fun _ _ => trivial)
      have q0 : wr.cell? ⟨g, i * 2, none⟩ = some (.string y) := by
        have := hrow.cells (g := g) rfl (i * 2) _ hc0
        rw [add_plain'] at this
        exact this
      have q1 : wr.cell? ⟨g, i * 2 + 1, none⟩ = some (.int .i64 x.2) := by
        have := hrow.cells (g := g) rfl (i * 2 + 1) _ hc1
        rw [add_plain'] at this
        exact this
      have htk : xs.take (i + 1) = xs.take i ++ [x] := by rw [List.take_add_one, hx]; rfl
      have hj := paT_snoc x (xs.take i)
      rw [← htk] at hj
      have HJ : Hid (paT (xs.take (i + 1)) = paT (xs.take i) ++ (if xs.take i = [] then [] else [44, 32]) ++ paO x) := hj
      have hln := paT_len xs (i + 1)
      rw [hj] at hln
      have HLn : Hid ((paT (xs.take i)).length + ((if xs.take i = [] then [] else [44, 32]) : By).length + (x.1.length + 2) + 3 ≤ (paT xs).length) := by
        show _ ≤ _
        have h3 : (paO x).length = x.1.length + 2 + 3 := by unfold paO; split <;> simp
        simp only [List.length_append] at hln
        omega
      have hyb : y.size ≤ 100000000000 := by rw [hyz]; have := HLn.out; have := HL.out; omega
      obtain ⟨ty, hty⟩ : ∃ ty, ty = x.2 := ⟨_, rfl⟩
      have HTy : Hid (ty = x.2) := hty
      rw [← hty] at q1
      have HWd : Hid (∀ W1, W1 = wr.alloc (.cells #[.string y, .int .i64 ty] 83) → FrB B b wr W1 ∧ W1.heap[wr.heap.size]? = some (.cells #[.string y, .int .i64 ty] 83) ∧ Below wr.heap.size wr W1) := fun W1 e => by
        have hb1 : Below wr.heap.size wr W1 := by rw [e]; exact (Below.refl _ _).alloc (Nat.le_refl _) _
        exact ⟨FrB.of hb1 (HE.out.go HI.out.2).le, by rw [e]; exact heap_alloc_last wr _, hb1⟩
      clear hrow hc0 hc1 hx htk hj hln hy hyt hyz hty
      by_cases h0 : i = 0
      · subst h0
        go_wp2_with (go_at_call 17; fail)
        obtain ⟨W1, hW1⟩ : ∃ W1, W1 = wr.alloc (.cells #[.string y, .int .i64 ty] 83) := ⟨_, rfl⟩
        obtain ⟨hfr, hq1, hb1⟩ := HWd.out W1 hW1
        obtain ⟨qq, hqq⟩ : ∃ qq, qq = wr.heap.size := ⟨_, rfl⟩
        rw [← hqq] at hq1
        have HFa : Hid (FrB B b w W1) := HI.out.2.trans hfr
        have HDa : Hid (Bd B b (s ++ paT (xs.take 0) ++ []) W1) := (by simpa using HI.out.1.below hb1 : Bd B b _ W1)
        have HQa : Hid (W1.heap[qq]? = some (.cells #[.string y, .int .i64 ty] 83)) := hq1
        have HSep : Hid ((if xs.take 0 = [] then [] else [44, 32] : By) = []) := by show _ = _; simp
        rw [← hW1, ← hqq]
        clear hW1 hqq hfr hq1 hb1
        generalize hx1 : y ++ (⟨#[58, 32]⟩ : ByteArray) = x1
        have ht1 : x1.data.toList = x.1 ++ [58, 32] := by rw [← hx1, app_toList, HY.out.1]
        have hz1 : x1.size = x.1.length + 2 := by rw [← hx1, app_size, HY.out.2]; rfl
        refine (ws x1 HDa.out (HE.out.go HFa.out).le (by rw [hz1]; have := HL.out; have := HLn.out; rw [HSep.out] at this; simp at this ⊢; omega)).mono ?_
        rintro e w3 ⟨rfl, hd, hf⟩
        rw [ht1] at hd
        have HF3 : Hid (FrB B b w w3) := HFa.out.trans hf
        have HD3 : Hid (Bd B b (s ++ paT (xs.take 0) ++ [] ++ (x.1 ++ [58, 32])) w3) := hd
        have hQ3 := (hf.keeps (fun _ => True) HDa.out) _ _ 83 trivial (by decide) HQa.out
        have z1 := cell_at (i := 1) hQ3 rfl
        clear hd hf hQ3 hx1 ht1 hz1
        by_cases h2 : ty = 2
        · have bt : (ty == 2) = true := by simpa using h2
          have HO : Hid (paO x = (x.1 ++ [58, 32]) ++ [97, 114, 114]) := by show _ = _; unfold paO; rw [if_pos (by rw [← HTy.out]; exact h2)]
          go_wp2_with (go_at_call 17; fail)
          refine (ws ⟨#[97, 114, 114]⟩ HD3.out (HE.out.go HF3.out).le (by show _ + 3 ≤ _; have := HL.out; have := HLn.out; rw [HSep.out] at this; simp at this ⊢; omega)).mono ?_
          rintro e w4 ⟨rfl, hd, hf⟩
          have HEnd : Hid (Bd B b (s ++ paT (xs.take (0 + 1))) w4 ∧ FrB B b w w4) := by
            refine ⟨?_, HF3.out.trans hf⟩
            rw [HJ.out, HSep.out, HO.out]
            simpa using hd
          clear hd hf
          go_wp2
          exact ⟨⟨0 + 1, by omega, by go_num, HEnd.out⟩, by simp [intOf]; omega⟩
        · have bt : (ty == 2) = false := by simpa using h2
          have HO : Hid (paO x = (x.1 ++ [58, 32]) ++ [105, 110, 116]) := by show _ = _; unfold paO; rw [if_neg (by rw [← HTy.out]; exact h2)]
          go_wp2_with (go_at_call 17; fail)
          refine (ws ⟨#[105, 110, 116]⟩ HD3.out (HE.out.go HF3.out).le (by show _ + 3 ≤ _; have := HL.out; have := HLn.out; rw [HSep.out] at this; simp at this ⊢; omega)).mono ?_
          rintro e w4 ⟨rfl, hd, hf⟩
          have HEnd : Hid (Bd B b (s ++ paT (xs.take (0 + 1))) w4 ∧ FrB B b w w4) := by
            refine ⟨?_, HF3.out.trans hf⟩
            rw [HJ.out, HSep.out, HO.out]
            simpa using hd
          clear hd hf
          go_wp2
          exact ⟨⟨0 + 1, by omega, by go_num, HEnd.out⟩, by simp [intOf]; omega⟩
      · have hpos : 0 < i := by omega
        have HSep : Hid ((if xs.take i = [] then [] else [44, 32] : By) = [44, 32]) := by
          show _ = _
          rw [if_neg]
          intro e
          have := congrArg List.length e
          rw [List.length_take, ← HN.out] at this
          simp at this
          omega
        go_wp2_with (go_at_call 17; fail)
        obtain ⟨W1, hW1⟩ : ∃ W1, W1 = wr.alloc (.cells #[.string y, .int .i64 ty] 83) := ⟨_, rfl⟩
        obtain ⟨hfr, hq1, hb1⟩ := HWd.out W1 hW1
        obtain ⟨qq, hqq⟩ : ∃ qq, qq = wr.heap.size := ⟨_, rfl⟩
        rw [← hqq] at hq1
        have HFb : Hid (FrB B b w W1) := HI.out.2.trans hfr
        have HDb : Hid (Bd B b (s ++ paT (xs.take i)) W1) := HI.out.1.below hb1
        have HQb : Hid (W1.heap[qq]? = some (.cells #[.string y, .int .i64 ty] 83)) := hq1
        rw [← hW1, ← hqq]
        clear hW1 hqq hfr hq1 hb1
        refine (ws ⟨#[44, 32]⟩ HDb.out (HE.out.go HFb.out).le (by show _ + 2 ≤ _; have := HL.out; have := HLn.out; rw [HSep.out] at this; simp at this ⊢; omega)).mono ?_
        rintro e w2 ⟨rfl, hd, hf⟩
        have HFa : Hid (FrB B b w w2) := HFb.out.trans hf
        have HDa : Hid (Bd B b (s ++ paT (xs.take i) ++ [44, 32]) w2) := hd
        have hQ2 := (hf.keeps (fun _ => True) HDb.out) _ _ 83 trivial (by decide) HQb.out
        have HQa : Hid (w2.heap[qq]? = some (.cells #[.string y, .int .i64 ty] 83)) := hQ2
        have z0 := cell_at (i := 0) hQ2 rfl
        clear hd hf hQ2
        go_wp2_with (go_at_call 17; fail)
        generalize hx1 : y ++ (⟨#[58, 32]⟩ : ByteArray) = x1
        have ht1 : x1.data.toList = x.1 ++ [58, 32] := by rw [← hx1, app_toList, HY.out.1]
        have hz1 : x1.size = x.1.length + 2 := by rw [← hx1, app_size, HY.out.2]; rfl
        refine (ws x1 HDa.out (HE.out.go HFa.out).le (by rw [hz1]; have := HL.out; have := HLn.out; rw [HSep.out] at this; simp at this ⊢; omega)).mono ?_
        rintro e w3 ⟨rfl, hd, hf⟩
        rw [ht1] at hd
        have HF3 : Hid (FrB B b w w3) := HFa.out.trans hf
        have HD3 : Hid (Bd B b (s ++ paT (xs.take i) ++ [44, 32] ++ (x.1 ++ [58, 32])) w3) := hd
        have hQ3 := (hf.keeps (fun _ => True) HDa.out) _ _ 83 trivial (by decide) HQa.out
        have z1 := cell_at (i := 1) hQ3 rfl
        clear hd hf hQ3 hx1 ht1 hz1
        by_cases h2 : ty = 2
        · have bt : (ty == 2) = true := by simpa using h2
          have HO : Hid (paO x = (x.1 ++ [58, 32]) ++ [97, 114, 114]) := by show _ = _; unfold paO; rw [if_pos (by rw [← HTy.out]; exact h2)]
          go_wp2_with (go_at_call 17; fail)
          refine (ws ⟨#[97, 114, 114]⟩ HD3.out (HE.out.go HF3.out).le (by show _ + 3 ≤ _; have := HL.out; have := HLn.out; rw [HSep.out] at this; simp at this ⊢; omega)).mono ?_
          rintro e w4 ⟨rfl, hd, hf⟩
          have HEnd : Hid (Bd B b (s ++ paT (xs.take (i + 1))) w4 ∧ FrB B b w w4) := by
            refine ⟨?_, HF3.out.trans hf⟩
            rw [HJ.out, HSep.out, HO.out]
            simpa using hd
          clear hd hf
          go_wp2
          exact ⟨⟨i + 1, by omega, by go_num, HEnd.out⟩, by simp [intOf]; omega⟩
        · have bt : (ty == 2) = false := by simpa using h2
          have HO : Hid (paO x = (x.1 ++ [58, 32]) ++ [105, 110, 116]) := by show _ = _; unfold paO; rw [if_neg (by rw [← HTy.out]; exact h2)]
          go_wp2_with (go_at_call 17; fail)
          refine (ws ⟨#[105, 110, 116]⟩ HD3.out (HE.out.go HF3.out).le (by show _ + 3 ≤ _; have := HL.out; have := HLn.out; rw [HSep.out] at this; simp at this ⊢; omega)).mono ?_
          rintro e w4 ⟨rfl, hd, hf⟩
          have HEnd : Hid (Bd B b (s ++ paT (xs.take (i + 1))) w4 ∧ FrB B b w w4) := by
            refine ⟨?_, HF3.out.trans hf⟩
            rw [HJ.out, HSep.out, HO.out]
            simpa using hd
          clear hd hf
          go_wp2
          exact ⟨⟨i + 1, by omega, by go_num, HEnd.out⟩, by simp [intOf]; omega⟩
    · obtain rfl : i = n := by omega
      have HAll : Hid (Bd B b (s ++ paT xs) wr ∧ FrB B b w wr) := by
        have h := HI.out
        rw [List.take_of_length_le (by rw [HN.out]; exact Nat.le_refl _)] at h
        exact h
      go_wp2
      go_end0
      exact HPo.out wr HAll.out.1 HAll.out.2
end Go.Proofs.YtpakgaegckkmnaaGreatDoor
