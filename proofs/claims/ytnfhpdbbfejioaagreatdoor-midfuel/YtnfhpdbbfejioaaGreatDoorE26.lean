/- LD LT -/
import Derived.Test.YtnfhpdbbfejioaaGreatDoorE25
namespace Go.Proofs.YtnfhpdbbfejioaaGreatDoor.Mid
set_option linter.unusedVariables false
set_option linter.unusedSimpArgs false
set_option maxRecDepth 100000
set_option maxHeartbeats 16000000
open Go Go.RowKit
theorem labelL_some {s s' : Wr} {p : Nat} (h : qR s = some (p, s')) : s.lb < 100000 ∧ p = s.lb + 1 ∧ s' = { s with lb := s.lb + 1 } := by
  unfold qR at h
  split at h
  · injection h with h
    injection h with h1 h2
    exact ⟨‹_›, h1.symm, h2.symm⟩
  · cases h
theorem bel_set {w : World} {P k : Nat} {x : Value} : Below (P - 1) w (w.setCell ⟨P, k, none⟩ x) := (Below.refl _ _).setCell (p := ⟨P, k, none⟩) (Nat.sub_le _ _) _
theorem WrOk.lab {s : Wr} (h : WrOk s) (hl : s.lb < 100000) : WrOk { s with lb := s.lb + 1 } := ⟨h.ts, h.ss, h.p1, h.p2, h.nm, by show s.lb + 1 ≤ 100000; omega, h.u1, h.u2, h.oks, h.okt, h.s1, h.s2, h.no, h.nms⟩
theorem WrOk.us {s : Wr} (h : WrOk s) {a b : Nat} (ha : a ≤ 100001) (hb : b ≤ 100001) : WrOk { s with u1 := a, u2 := b } := ⟨h.ts, h.ss, h.p1, h.p2, h.nm, h.lb, ha, hb, h.oks, h.okt, h.s1, h.s2, h.no, h.nms⟩
theorem WrOk.nou {s : Wr} (h : WrOk s) {p : Nat} (hp : p < 100000) : WrOk { s with no := some p } := ⟨h.ts, h.ss, h.p1, h.p2, h.nm, h.lb, h.u1, h.u2, h.oks, h.okt, h.s1, h.s2, fun q hq => by injection hq with hq; omega, h.nms⟩
theorem label_any {R : Nat → Nat} {w : World} {P mb : Nat} {s s' : Wr} {p : Nat} (h : WrM R w P mb s) (hx : qR s = some (p, s')) :
    Calls Tryz.prog 214 #[ptr P] w (LnP P R mb w (p : Int) s') := by
  obtain ⟨hl, rfl, rfl⟩ := labelL_some hx
  obtain ⟨tv, sv, v1, v2, h⟩ := h
  have c1 : w.cell? ⟨P, 10, none⟩ = some (.int .i64 (s.lb : Int)) := z_ (i := 10) h.blk rfl
  have f1 : w.frozen? ⟨P, 10, none⟩ = false := zb h.blk 10
  have hs := heap_setCell_same w P 10 _ _ (.int .i64 ((s.lb : Int) + 1)) h.blk
  have d1 : (w.setCell ⟨P, 10, none⟩ (.int .i64 ((s.lb : Int) + 1))).cell? ⟨P, 10, none⟩ = some (.int .i64 ((s.lb : Int) + 1)) := z_ (i := 10) hs rfl
  have HX : Hid (LnP P R mb w ((s.lb + 1 : Nat) : Int) { s with lb := s.lb + 1 } (.returned (.int .i64 ((s.lb : Int) + 1))) (w.setCell ⟨P, 10, none⟩ (.int .i64 ((s.lb : Int) + 1)))) := by
    obtain ⟨hW, hL⟩ := h.setU (w' := w.setCell ⟨P, 10, none⟩ (.int .i64 ((s.lb : Int) + 1))) (s' := { s with lb := s.lb + 1 }) (no := 0) bel_set (fun b hb hne => heap_setCell_other _ _ _ _ hne) (by rw [hs]; rfl) rfl rfl rfl rfl rfl (h.ok.lab hl)
    exact ⟨by rw [show ((s.lb + 1 : Nat) : Int) = (s.lb : Int) + 1 by omega], _, ⟨_, _, _, _, hW⟩, hL⟩
  generalize LnP P R mb w ((s.lb + 1 : Nat) : Int) { s with lb := s.lb + 1 } = G at HX ⊢
  generalize s.lb = n at *
  clear h hs hx
  go_enter Tryz.func214, Tryz.ntmps214
  go_wp2
  exact HX.out
theorem put_any {R : Nat → Nat} {w : World} {P mb : Nat} {s s' : Wr} {l : Nat} {u : Unit} (h : WrM R w P mb s) (hx : putL l s = some (u, s')) :
    Calls Tryz.prog 216 #[ptr P, .int .i64 (l : Int)] w (LuP P R mb w s') := by
  have HA : Hid (Calls Tryz.prog 70 #[ptr P, .agg #[.int .i64 6, .int .i64 0, .int .i64 0, .int .i64 0, .int .i64 0, .int .i64 0, .string ⟨#[]⟩, .int .i64 (l : Int), .string ⟨#[]⟩, .slice none 0 0]] w (LuP P R mb w s')) := add_y 6 0 0 0 0 0 ⟨#[]⟩ (l : Int) ⟨#[]⟩ [] none 0 0 h (ArAt.none _ _) hx
  have HE : Hid (∀ e w', LuP P R mb w s' e w' → e = .returned (.tuple #[]) ∧ LuP P R mb w s' e w') := fun e w' hg => ⟨hg.1, hg⟩
  have HE : Hid (∀ e w', LuP P R mb w s' e w' → e = .returned (.tuple #[]) ∧ LuP P R mb w s' (.returned (.tuple #[])) w') := fun e w' hg => ⟨hg.1, hg.1 ▸ hg⟩
  generalize LuP P R mb w s' = G at HA HE ⊢
  clear h hx
  go_enter Tryz.func216, Tryz.ntmps216
  go_wp2_with (go_at_call 70; fail)
  refine HA.out.mono ?_
  intro e w1 hg
  obtain ⟨rfl, hg2⟩ := HE.out _ _ hg
  have HX : Hid (G (.returned (.tuple #[])) w1) := hg2
  clear hg hg2
  go_wp2
  go_end0
  exact HX.out
theorem zero_any {R : Nat → Nat} {w : World} {P mb : Nat} {s s' : Wr} {p : Nat} (h : WrM R w P mb s) (hx : zeroL s = some (p, s')) :
    Calls Tryz.prog 71 #[ptr P] w (LnP P R mb w (p : Int) s') := by
  unfold zeroL at hx
  cases hno : s.no with
  | some q =>
    rw [hno] at hx
    injection hx with hx
    injection hx with h1 h2
    subst h1 h2
    have HH : Hid (WrM R w P mb s) := h
    obtain ⟨tv, sv, v1, v2, h⟩ := h
    have c1 : w.cell? ⟨P, 9, none⟩ = some (.int .i64 (noI s.no)) := z_ (i := 9) h.blk rfl
    rw [hno] at c1
    have c1' : w.cell? ⟨P, 9, none⟩ = some (.int .i64 (q : Int)) := c1
    have HX : Hid (LnP P R mb w (q : Int) s (.returned (.int .i64 (q : Int))) w) := ⟨rfl, R, HH.out, Lw.refl _ _ _⟩
    generalize LnP P R mb w (q : Int) s = G at HX ⊢
    have hq : ((q : Int) < 0) = False := by simp
    clear h hno c1
    go_enter Tryz.func71, Tryz.ntmps71
    go_wp2
    exact HX.out
  | none =>
    rw [hno] at hx
    have hx' : (if s.ts.length < 100000 then some (s.ts.length, { s with ts := s.ts ++ [1], no := some s.ts.length }) else none) = some (p, s') := hx
    split at hx'
    · rename_i hl
      injection hx' with hx'
      injection hx' with h1 h2
      subst h1 h2
      have HP : Hid (Calls Tryz.prog 68 #[ptr P, .int .i64 1] w (LnP P R mb w (s.ts.length : Int) { s with ts := s.ts ++ [1] })) := place_any h (by unfold placeL; rw [show (decide (s.ts.length < 100000) && okI 1) = true by simp [hl, okI]]; rfl)
      obtain ⟨tv, sv, v1, v2, h⟩ := h
      have c1 : w.cell? ⟨P, 9, none⟩ = some (.int .i64 (noI s.no)) := z_ (i := 9) h.blk rfl
      rw [hno] at c1
      have c1' : w.cell? ⟨P, 9, none⟩ = some (.int .i64 (-1)) := c1
      obtain ⟨n, hn⟩ : ∃ n, n = s.ts.length := ⟨_, rfl⟩
      have HN : Hid (n = s.ts.length) := hn
      have HL : Hid (n < 100000) := by rw [hn]; exact hl
      rw [← hn] at HP ⊢
      obtain ⟨G, hG⟩ : ∃ G, G = LnP P R mb w (n : Int) { s with ts := s.ts ++ [1], no := some n } := ⟨_, rfl⟩
      have HG : Hid (G = LnP P R mb w (n : Int) { s with ts := s.ts ++ [1], no := some n }) := hG
      rw [← hG]
      clear h hno c1 hx hl hn hG
      go_enter Tryz.func71, Tryz.ntmps71
      go_wp2_with (go_at_call 68; fail)
      refine HP.out.mono ?_
      rintro e w1 ⟨rfl, R1, ⟨tv1, sv1, v11, v21, hw⟩, hl⟩
      have f2 : w1.frozen? ⟨P, 9, none⟩ = false := zb hw.blk 9
      have c2 : w1.cell? ⟨P, 9, none⟩ = some (.int .i64 (noI s.no)) := z_ (i := 9) hw.blk rfl
      have hs := heap_setCell_same w1 P 9 _ _ (.int .i64 (n : Int)) hw.blk
      have d1 : (w1.setCell ⟨P, 9, none⟩ (.int .i64 (n : Int))).cell? ⟨P, 9, none⟩ = some (.int .i64 (n : Int)) := z_ (i := 9) hs rfl
      have HX : Hid (G (.returned (.int .i64 (n : Int))) (w1.setCell ⟨P, 9, none⟩ (.int .i64 (n : Int)))) := by
        show G _ _
        rw [HG.out]
        obtain ⟨hW, hL⟩ := hw.setU (w' := w1.setCell ⟨P, 9, none⟩ (.int .i64 (n : Int))) (s' := { s with ts := s.ts ++ [1], no := some n }) (no := 0) bel_set (fun b hb hne => heap_setCell_other _ _ _ _ hne) (by rw [hs]; rfl) rfl rfl rfl rfl rfl (hw.ok.nou HL.out)
        exact ⟨rfl, _, ⟨_, _, _, _, hW⟩, hl.trans hL⟩
      clear hw hl hs
      go_wp2
      exact HX.out
    · cases hx'
theorem finL_some {x : Ms} {p q : Nat} {s s' : Wr} (h : finL x p s = some (q, s')) : q = p ∧ ((x.code = 2 ∧ x.a = (p : Int) ∧ s' = s) ∨ (¬ (x.code = 2 ∧ x.a = (p : Int)) ∧ ∃ u, qU { x with dst := (p : Int) } s = some (u, s'))) := by
  unfold finL at h
  split at h
  · rename_i hc
    injection h with h
    injection h with h1 h2
    exact ⟨h1.symm, .inl ⟨hc.1, hc.2, h2.symm⟩⟩
  · rename_i hc
    obtain ⟨u, w1, h1, h2⟩ := zg h
    injection h2 with h2
    injection h2 with h2 h3
    subst h3
    exact ⟨h2.symm, .inr ⟨hc, u, h1⟩⟩
theorem WrM.al {R : Nat → Nat} {w : World} {P mb : Nat} {s : Wr} (h : WrM R w P mb s) (A : Obj) : WrM R (w.alloc A) P mb s ∧ Lw P R R w (w.alloc A) := by
  have hP : P ≤ w.heap.size := by obtain ⟨_, _, _, _, h⟩ := h; exact Nat.le_of_lt h.ltP
  have hb : Below (P - 1) w (w.alloc A) := (zt w A).mono (by omega)
  exact ⟨h.on (fun b hb => zc hb) hb, hb, fun _ _ => rfl, fun b hb _ => zc hb⟩
theorem finish_any {R : Nat → Nat} {w : World} {P mb : Nat} {s s' : Wr} {x : Ms} {p q : Nat} (h : WrM R w P mb s) (qa : Option Addr) (na ca : Nat) (hav : ArAt R w (.slice qa na ca) x.args) (hx : finL x p s = some (q, s')) :
    Calls Tryz.prog 211 #[ptr P, .agg #[.int .i64 x.code, .int .i64 x.dst, .int .i64 x.a, .int .i64 x.b, .int .i64 x.c, .int .i64 x.n, .string ⟨x.op.toArray⟩, .int .i64 x.label, .string ⟨x.name.toArray⟩, .slice qa na ca], .int .i64 (p : Int)] w (LnP P R mb w (q : Int) s') := by
  obtain ⟨rfl, hc⟩ := finL_some hx
  obtain ⟨yo, hyo⟩ : ∃ y : ByteArray, y = ⟨x.op.toArray⟩ := ⟨_, rfl⟩
  obtain ⟨yn, hyn⟩ : ∃ y : ByteArray, y = ⟨x.name.toArray⟩ := ⟨_, rfl⟩
  obtain ⟨A, hA⟩ : ∃ A : Obj, A = .cells #[.int .i64 x.code, .int .i64 x.dst, .int .i64 x.a, .int .i64 x.b, .int .i64 x.c, .int .i64 x.n, .string yo, .int .i64 x.label, .string yn, .slice qa na ca] 125 := ⟨_, rfl⟩
  obtain ⟨W1, hW1⟩ : ∃ W1, W1 = w.alloc A := ⟨_, rfl⟩
  have hz1 : W1.heap.size = w.heap.size + 1 := by rw [hW1]; simp
  have hb1 : W1.heap[w.heap.size]? = some A := by rw [hW1]; exact heap_alloc_last w _
  obtain ⟨hm1, hl1⟩ := h.al A
  rw [← hW1] at hm1 hl1
  rw [hA] at hb1
  rcases hc with ⟨h1, h2, rfl⟩ | ⟨hn, u, hx2⟩
  · have z0 : W1.cell? ⟨w.heap.size, 0, none⟩ = some (.int .i64 2) := by rw [← h1]; exact z_ (i := 0) hb1 rfl
    have z2 : W1.cell? ⟨w.heap.size, 2, none⟩ = some (.int .i64 (q : Int)) := by rw [← h2]; exact z_ (i := 2) hb1 rfl
    have HX : Hid (LnP P R mb w (q : Int) s' (.returned (.int .i64 (q : Int))) W1) := ⟨rfl, R, hm1, hl1⟩
    generalize LnP P R mb w (q : Int) s' = G at HX ⊢
    rw [← hyo, ← hyn, h1, h2]
    rw [h1, h2] at hA
    rw [hW1, hA] at z0 z2 HX
    clear h hW1 hz1 hb1 hm1 hl1 hA hx hyo hyn hav h1 h2
    go_enter Tryz.func211, Tryz.ntmps211
    go_wp2
    exact HX.out
  · obtain ⟨A2, hA2⟩ : ∃ A2 : Obj, A2 = .cells #[.int .i64 x.code, .int .i64 (q : Int), .int .i64 x.a, .int .i64 x.b, .int .i64 x.c, .int .i64 x.n, .string yo, .int .i64 x.label, .string yn, .slice qa na ca] 125 := ⟨_, rfl⟩
    obtain ⟨hm2, hl2⟩ := h.al A2
    have HA : Hid (Calls Tryz.prog 70 #[ptr P, .agg #[.int .i64 x.code, .int .i64 (q : Int), .int .i64 x.a, .int .i64 x.b, .int .i64 x.c, .int .i64 x.n, .string yo, .int .i64 x.label, .string yn, .slice qa na ca]] (w.alloc A2) (LuP P R mb (w.alloc A2) s')) := by
      rw [hyo, hyn]
      exact add_any (x := { x with dst := (q : Int) }) hm2 qa na ca (hav.kept hl2) hx2
    have HL : Hid (Lw P R R w (w.alloc A2)) := hl2
    obtain ⟨G, hG⟩ : ∃ G, G = LnP P R mb w (q : Int) s' := ⟨_, rfl⟩
    have HG : Hid (G = LnP P R mb w (q : Int) s') := hG
    rw [← hG, ← hyo, ← hyn]
    have HEnd : Hid (∀ e w', LuP P R mb (w.alloc A2) s' e w' → e = .returned (.tuple #[]) ∧ G (.returned (.int .i64 (q : Int))) w') := fun e w' hg => by
      obtain ⟨rfl, R2, hm, hl⟩ := hg
      exact ⟨rfl, by rw [HG.out]; exact ⟨rfl, R2, hm, HL.out.trans hl⟩⟩
    rw [hA2] at HA HEnd
    have hn1 : ¬ (x.code = 2 ∧ x.a = (q : Int)) := hn
    clear h hW1 hz1 hb1 hm1 hl1 hA hx hyo hyn hav hm2 hl2 hG hn hx2 hA2 HL
    clear A2
    generalize x.code = xc at *
    generalize x.a = xa at *
    generalize x.dst = xd at *
    generalize x.b = xb at *
    generalize x.c = xcc at *
    generalize x.n = xn at *
    generalize x.label = xl at *
    by_cases h2 : xc = 2
    · have h3 : (xa == (q : Int)) = false := by simp; exact fun e => hn1 ⟨h2, e⟩
      subst h2
      clear hn1
      go_enter Tryz.func211, Tryz.ntmps211
      go_wp2_with (go_at_call 70; fail)
      refine HA.out.mono ?_
      intro e w1 hg
      obtain ⟨rfl, hg2⟩ := HEnd.out _ _ hg
      have HE : Hid (G (.returned (.int .i64 (q : Int))) w1) := hg2
      clear hg hg2
      go_wp2
      exact HE.out
    · have h3 : (xc == 2) = false := by simpa using h2
      clear hn1 h2
      go_enter Tryz.func211, Tryz.ntmps211
      go_wp2_with (go_at_call 70; fail)
      refine HA.out.mono ?_
      intro e w1 hg
      obtain ⟨rfl, hg2⟩ := HEnd.out _ _ hg
      have HE : Hid (G (.returned (.int .i64 (q : Int))) w1) := hg2
      clear hg hg2
      go_wp2
      exact HE.out
theorem take1_some {s s' : Wr} {p : Nat} (h : take1 s = some (p, s')) : (s.u1 = s.sp1.length ∧ s.ts.length < 100000 ∧ p = s.ts.length ∧ s' = { s with ts := s.ts ++ [1], sp1 := s.sp1 ++ [s.ts.length], u1 := s.u1 + 1 }) ∨ (s.u1 ≠ s.sp1.length ∧ s.sp1[s.u1]? = some p ∧ s' = { s with u1 := s.u1 + 1 }) := by
  unfold take1 at h
  split at h
  · rename_i hc
    split at h
    · rename_i hl
      injection h with h
      injection h with h1 h2
      exact .inl ⟨hc, hl, h1.symm, h2.symm⟩
    · cases h
  · rename_i hc
    split at h
    · rename_i p' hp
      injection h with h
      injection h with h1 h2
      subst h1
      exact .inr ⟨hc, hp, h2.symm⟩
    · cases h
theorem WrOk.tak1 {s : Wr} (h : WrOk s) (hl : s.ts.length < 100000) : WrOk { s with ts := s.ts ++ [1], sp1 := s.sp1 ++ [s.ts.length] } :=
  have h1 := h.place (k := 1) hl (by decide)
  ⟨h1.ts, h1.ss, by show (s.sp1 ++ [s.ts.length]).length ≤ (s.ts ++ [1]).length; have := h.p1; simp; omega, h1.p2, h1.nm, h1.lb, h1.u1, h1.u2, h1.oks, h1.okt, (fun p hp => by
    rcases List.mem_append.1 hp with hp | hp
    · exact h.s1 p hp
    · rw [List.mem_singleton] at hp; omega), h1.s2, h1.no, h1.nms⟩
theorem take1_any {R : Nat → Nat} {w : World} {P mb : Nat} {s s' : Wr} {p : Nat} (h : WrM R w P mb s) (hx : take1 s = some (p, s')) :
    Calls Tryz.prog 213 #[ptr P, .int .i64 1] w (LnP P R mb w (p : Int) s') := by
  obtain ⟨tv, sv, v1, v2, h⟩ := h
  have hb0 : WrOk s := h.ok
  have HD : Hid (∀ n, Wc R (w.drewN n) P mb tv sv v1 v2 s ∧ Lw P R R w (w.drewN n)) := fun n => ⟨h.on (fun _ _ => rfl) ((zD w n).mono (by have := h.ltP; omega)), (zD w n).mono (by have := h.ltP; omega), fun _ _ => rfl, fun _ _ _ => rfl⟩
  obtain ⟨q, c, eV⟩ := zd h.p1
  have HV : Hid (v1 = .slice q s.sp1.length c) := eV
  have c1 : w.cell? ⟨P, 7, none⟩ = some (.int .i64 (s.u1 : Int)) := z_ (i := 7) h.blk rfl
  have c2 : w.cell? ⟨P, 4, none⟩ = some (.slice q s.sp1.length c) := by rw [← eV]; exact z_ (i := 4) h.blk rfl
  rcases take1_some hx with ⟨hu, hl, rfl, rfl⟩ | ⟨hu, hp, rfl⟩
  · obtain ⟨G, hG⟩ : ∃ G, G = LnP P R mb w (s.ts.length : Int) { s with ts := s.ts ++ [1], sp1 := s.sp1 ++ [s.ts.length], u1 := s.u1 + 1 } := ⟨_, rfl⟩
    obtain ⟨u, hu0⟩ : ∃ u, u = s.u1 := ⟨_, rfl⟩
    obtain ⟨n, hn0⟩ : ∃ n, n = s.sp1.length := ⟨_, rfl⟩
    obtain ⟨m, hm0⟩ : ∃ m, m = s.ts.length := ⟨_, rfl⟩
    have hun : u = n := by omega
    have hn5 : n ≤ 100000 := by have := h.ok.p1; have := h.ok.ts; omega
    have HPl : Hid (∀ W, Wc R W P mb tv sv v1 v2 s ∧ Lw P R R w W → Calls Tryz.prog 68 #[ptr P, .int .i64 1] W (LtP P R mb sv v1 v2 W (m : Int) { s with ts := s.ts ++ [1] })) := fun W hW => by
      rw [hm0]
      exact place_c hW.1 (by unfold placeL; rw [show (decide (s.ts.length < 100000) && okI 1) = true by simp [hl, okI]]; rfl)
    have HAp : Hid (∀ R1 W1 tv1, Wc R1 W1 P mb tv1 sv v1 v2 { s with ts := s.ts ++ [1] } ∧ Lw P R R1 w W1 → ∃ g cap W2, (Builtin.append_ #[100, 100] 100 #[.slice q n c, .slice (some ⟨W1.heap.size, 0, none⟩) 1 1]).run Tryz.prog (W1.alloc (.cells #[.int .i64 (m : Int)] 3)) = .ok (.slice (some ⟨g, 0, none⟩) (n + 1) cap) W2 ∧ W2.cell? ⟨P, 4, none⟩ = some (.slice q n c) ∧ W2.frozen? ⟨P, 4, none⟩ = false ∧ ∃ R3, Wc R3 (W2.setCell ⟨P, 4, none⟩ (.slice (some ⟨g, 0, none⟩) (n + 1) cap)) P mb tv1 sv (.slice (some ⟨g, 0, none⟩) (n + 1) cap) v2 { s with ts := s.ts ++ [1], sp1 := s.sp1 ++ [s.ts.length] } ∧ Lw P R R3 w (W2.setCell ⟨P, 4, none⟩ (.slice (some ⟨g, 0, none⟩) (n + 1) cap))) := by
      rintro R1 W1 tv1 ⟨h1, h2⟩
      obtain ⟨g, cap, W2, hr, ho, hgr, hg, hgl⟩ := ap_row 3 100 1 8 _ info3 rfl (by decide) (by omega) und100 W1 P v1 s.sp1.length _ h1.p1 [.int .i64 (m : Int)] rfl (fun u hu => by simp at hu; subst hu; rfl) (by omega) (Nat.le_of_lt h1.ltP)
      obtain ⟨hW, hL⟩ := h1.app1 (p := m) hgr ho hg hgl (by rw [hm0]; exact h.ok.tak1 hl)
      have b2 : W2.heap[P]? = _ := (hgr.block P (by have := h1.ltP; simp; omega) (fun e => by have := h1.rP; rw [h1.r1 P e.symm] at this; omega)).trans ((zc h1.ltP).trans h1.blk)
      rw [← hn0] at hW hL hr
      rw [eV, ← hn0] at hr
      exact ⟨g, cap, W2, hr, by rw [hn0, ← eV]; exact z_ (i := 4) b2 rfl, zb b2 4, _, by rw [hm0] at hW; exact hW, h2.trans hL⟩
    have HOld : Hid (∀ R1 W1 tv1, Wc R1 W1 P mb tv1 sv v1 v2 { s with ts := s.ts ++ [1] } → W1.cell? ⟨P, 4, none⟩ = some (.slice q n c)) := fun R1 W1 tv1 h1 => by rw [hn0, ← eV]; exact z_ (i := 4) h1.blk rfl
    have HX : Hid (∀ R3 W3 tv3 g cap, Wc R3 W3 P mb tv3 sv (.slice (some ⟨g, 0, none⟩) (n + 1) cap) v2 { s with ts := s.ts ++ [1], sp1 := s.sp1 ++ [s.ts.length] } ∧ Lw P R R3 w W3 → (∀ k, G (.returned (.int .i64 (m : Int))) ((W3.setCell ⟨P, 7, none⟩ (.int .i64 ((n : Int) + 1))).drew.drewN k)) ∧ (W3.setCell ⟨P, 7, none⟩ (.int .i64 ((n : Int) + 1))).cell? ⟨P, 7, none⟩ = some (.int .i64 ((n : Int) + 1)) ∧ (W3.setCell ⟨P, 7, none⟩ (.int .i64 ((n : Int) + 1))).cell? ⟨P, 4, none⟩ = some (.slice (some ⟨g, 0, none⟩) (n + 1) cap) ∧ (W3.setCell ⟨P, 7, none⟩ (.int .i64 ((n : Int) + 1))).cell? ⟨g, n, none⟩ = some (.int .i64 (m : Int)) ∧ W3.cell? ⟨P, 7, none⟩ = some (.int .i64 (n : Int)) ∧ W3.frozen? ⟨P, 7, none⟩ = false) := by
      rintro R3 W3 tv3 g cap ⟨h1, h2⟩
      have hs := heap_setCell_same W3 P 7 _ _ (.int .i64 ((n : Int) + 1)) h1.blk
      obtain ⟨hW, hL⟩ := h1.setU (w' := W3.setCell ⟨P, 7, none⟩ (.int .i64 ((n : Int) + 1))) (s' := { s with ts := s.ts ++ [1], sp1 := s.sp1 ++ [s.ts.length], u1 := s.u1 + 1 }) (no := 0) bel_set (fun b hb hne => heap_setCell_other _ _ _ _ hne) (by rw [hs, ← hun, hu0]; rfl) rfl rfl rfl rfl rfl (h1.ok.us (by show s.u1 + 1 ≤ 100001; omega) h1.ok.u2)
      have hPr := hW.ltP
      refine ⟨fun k => by rw [hG, hm0]; exact ⟨rfl, R3, ⟨_, _, _, _, hW.on (fun _ _ => rfl) ((zl (P - 1) _).trans ((zD _ k).mono (Nat.le_trans (Nat.sub_le _ _) (Nat.le_of_lt hPr))))⟩, (h2.trans hL).trans ⟨(zl (P - 1) _).trans ((zD _ k).mono (Nat.le_trans (Nat.sub_le _ _) (Nat.le_of_lt hPr))), fun _ _ => rfl, fun _ _ _ => rfl⟩⟩, z_ (i := 7) hs rfl, ?_, ?_, ?_, zb h1.blk 7⟩
      · exact z_ (i := 4) hs rfl
      · have := hW.p1.cells (g := g) rfl n (.int .i64 (m : Int)) (by rw [hn0, hm0]; simp [nats])
        have e : (⟨g, 0, none⟩ : Addr).add n = ⟨g, n, none⟩ := by unfold Addr.add; split <;> simp_all
        rw [e] at this
        exact this
      · rw [← hun, hu0]; exact z_ (i := 7) h1.blk rfl
    rw [← hu0] at c1
    rw [← hn0] at c2
    rw [hun] at c1
    rw [← hG]
    clear h hx hu hb0 eV HV hu0 hn0 hG hl hm0 hun
    clear u
    go_enter Tryz.func213, Tryz.ntmps213
    go_wp2_with fail
    go_quiet (fail)
    go_wp2_with fail
    have HW0 : Hid (Wc R (w.drewN nq).drew P mb tv sv v1 v2 s ∧ Lw P R R w (w.drewN nq).drew) := HD.out (nq + 1)
    have c3 : (w.drewN nq).cell? ⟨P, 4, none⟩ = some (.slice q n c) := c2
    generalize w.drewN nq = W0 at HW0 c3 ⊢
    go_region_law (first
      | (refine step_run_append rfl (.tmp 26) (.tmp 30) 100 rfl (by simp [Act.eval]) (by simp [Act.eval]) HR2.out ?_)
      | (go_simp; go_at_call 68; refine (HPl.out _ HW0.out).mono ?_; rintro e w1 ⟨rfl, R1, tv1, hw, hl⟩; obtain ⟨g, cap, W2, r2, d2, f2, R3, hW3, hL3⟩ := HAp.out R1 w1 tv1 ⟨hw, HW0.out.2.trans hl⟩; have d1 : w1.cell? ⟨P, 4, none⟩ = some (.slice q n c) := HOld.out _ _ _ hw; have da : (w1.alloc (.cells #[.int .i64 (m : Int)] 3)).cell? ⟨P, 4, none⟩ = some (.slice q n c) := zk d1; have HR2 : Hid (_ = _) := r2; have HW3 : Hid (_ ∧ _) := ⟨hW3, hL3⟩; clear hw hl r2 hW3 hL3; dsimp only))
    all_goals
      obtain ⟨k1, k2, k3, k4, k5, k6⟩ := HX.out _ _ _ _ _ HW3.out
      generalize hW9 : W2.setCell ⟨P, 4, none⟩ (.slice (some ⟨g, 0, none⟩) (n + 1) cap) = W3 at k1 k2 k3 k4 k5 k6 ⊢
      have HK : Hid (∀ k, G (.returned (.int .i64 (m : Int))) ((W3.setCell ⟨P, 7, none⟩ (.int .i64 ((n : Int) + 1))).drew.drewN k)) := k1
      clear k1 hW9 d1 d2 f2 HR2 da
      go_wp2_with fail
      go_region
      go_wp2_with fail
      go_quiet (fail)
      go_wp2
      exact HK.out _
  · have hlt := (List.getElem?_eq_some_iff.1 hp).1
    have hne : ((s.u1 : Int) == (s.sp1.length : Int)) = false := by simp; omega
    obtain ⟨g1, cc1, e, -, -⟩ := h.p1.form (by omega)
    rw [eV] at e
    injection e with e1 e2 e3
    subst e1
    obtain ⟨u, hu0⟩ : ∃ u, u = s.u1 := ⟨_, rfl⟩
    obtain ⟨n, hn0⟩ : ∃ n, n = s.sp1.length := ⟨_, rfl⟩
    obtain ⟨G, hG⟩ : ∃ G, G = LnP P R mb w (p : Int) { s with u1 := s.u1 + 1 } := ⟨_, rfl⟩
    have HX : Hid (∀ W1, Wc R W1 P mb tv sv v1 v2 s ∧ Lw P R R w W1 → (∀ k, G (.returned (.int .i64 (p : Int))) ((W1.setCell ⟨P, 7, none⟩ (.int .i64 ((u : Int) + 1))).drew.drewN k)) ∧ (W1.setCell ⟨P, 7, none⟩ (.int .i64 ((u : Int) + 1))).cell? ⟨P, 7, none⟩ = some (.int .i64 ((u : Int) + 1)) ∧ (W1.setCell ⟨P, 7, none⟩ (.int .i64 ((u : Int) + 1))).cell? ⟨P, 4, none⟩ = some (.slice (some ⟨g1, 0, none⟩) n c) ∧ (W1.setCell ⟨P, 7, none⟩ (.int .i64 ((u : Int) + 1))).cell? ⟨g1, u, none⟩ = some (.int .i64 (p : Int)) ∧ W1.cell? ⟨P, 7, none⟩ = some (.int .i64 (u : Int)) ∧ W1.frozen? ⟨P, 7, none⟩ = false) := by
      rintro W1 ⟨h1, h2⟩
      have hs := heap_setCell_same W1 P 7 _ _ (.int .i64 ((u : Int) + 1)) h1.blk
      have hbb := h1.ok.p1
      have hbt := h1.ok.ts
      obtain ⟨hW, hL⟩ := h1.setU (w' := W1.setCell ⟨P, 7, none⟩ (.int .i64 ((u : Int) + 1))) (s' := { s with u1 := s.u1 + 1 }) (no := 0) bel_set (fun b hb hne => heap_setCell_other _ _ _ _ hne) (by rw [hs, hu0]; rfl) rfl rfl rfl rfl rfl (h1.ok.us (by show s.u1 + 1 ≤ 100001; omega) h1.ok.u2)
      have hPr := hW.ltP
      refine ⟨fun k => by rw [hG]; exact ⟨rfl, R, ⟨_, _, _, _, hW.on (fun _ _ => rfl) ((zl (P - 1) _).trans ((zD _ k).mono (Nat.le_trans (Nat.sub_le _ _) (Nat.le_of_lt hPr))))⟩, (h2.trans hL).trans ⟨(zl (P - 1) _).trans ((zD _ k).mono (Nat.le_trans (Nat.sub_le _ _) (Nat.le_of_lt hPr))), fun _ _ => rfl, fun _ _ _ => rfl⟩⟩, z_ (i := 7) hs rfl, ?_, ?_, ?_, zb h1.blk 7⟩
      · rw [hn0, ← eV]; exact z_ (i := 4) hs rfl
      · have := (eV ▸ hW.p1).cells (g := g1) rfl u (.int .i64 (p : Int)) (by rw [hu0]; simp [nats, hp])
        have e : (⟨g1, 0, none⟩ : Addr).add u = ⟨g1, u, none⟩ := by unfold Addr.add; split <;> simp_all
        rw [e] at this
        exact this
      · rw [hu0]; exact z_ (i := 7) h1.blk rfl
    have hun : u < n := by omega
    have hu5 : u ≤ 100000 := by have := h.ok.p1; have := h.ok.ts; omega
    rw [← hu0, ← hn0] at hne
    rw [← hu0] at c1
    rw [← hn0] at c2
    rw [← hG]
    clear h hx hu hp hb0 eV HV hlt hu0 hn0 e2 e3 hG
    go_enter Tryz.func213, Tryz.ntmps213
    go_wp2_with fail
    go_quiet (fail)
    go_wp2_with fail
    obtain ⟨k1, k2, k3, k4, k5, k6⟩ := HX.out _ (HD.out nq)
    generalize w.drewN nq = W1 at k1 k2 k3 k4 k5 k6 ⊢
    have HK : Hid (∀ k, G (.returned (.int .i64 (p : Int))) ((W1.setCell ⟨P, 7, none⟩ (.int .i64 ((u : Int) + 1))).drew.drewN k)) := k1
    clear k1
    go_region
    go_wp2_with fail
    go_quiet (fail)
    go_wp2
    exact HK.out _
theorem take2_some {s s' : Wr} {p : Nat} (h : take2 s = some (p, s')) : (s.u2 = s.sp2.length ∧ s.ts.length < 100000 ∧ p = s.ts.length ∧ s' = { s with ts := s.ts ++ [2], sp2 := s.sp2 ++ [s.ts.length], u2 := s.u2 + 1 }) ∨ (s.u2 ≠ s.sp2.length ∧ s.sp2[s.u2]? = some p ∧ s' = { s with u2 := s.u2 + 1 }) := by
  unfold take2 at h
  split at h
  · rename_i hc
    split at h
    · rename_i hl
      injection h with h
      injection h with h1 h2
      exact .inl ⟨hc, hl, h1.symm, h2.symm⟩
    · cases h
  · rename_i hc
    split at h
    · rename_i p' hp
      injection h with h
      injection h with h1 h2
      subst h1
      exact .inr ⟨hc, hp, h2.symm⟩
    · cases h
theorem WrOk.tak2 {s : Wr} (h : WrOk s) (hl : s.ts.length < 100000) : WrOk { s with ts := s.ts ++ [2], sp2 := s.sp2 ++ [s.ts.length] } :=
  have h1 := h.place (k := 2) hl (by decide)
  ⟨h1.ts, h1.ss, h1.p1, by show (s.sp2 ++ [s.ts.length]).length ≤ (s.ts ++ [2]).length; have := h.p2; simp; omega, h1.nm, h1.lb, h1.u1, h1.u2, h1.oks, h1.okt, h1.s1, (fun p hp => by
    rcases List.mem_append.1 hp with hp | hp
    · exact h.s2 p hp
    · rw [List.mem_singleton] at hp; omega), h1.no, h1.nms⟩
theorem take2_any {R : Nat → Nat} {w : World} {P mb : Nat} {s s' : Wr} {p : Nat} (h : WrM R w P mb s) (hx : take2 s = some (p, s')) :
    Calls Tryz.prog 213 #[ptr P, .int .i64 2] w (LnP P R mb w (p : Int) s') := by
  obtain ⟨tv, sv, v1, v2, h⟩ := h
  have hb0 : WrOk s := h.ok
  have HD : Hid (∀ n, Wc R (w.drewN n) P mb tv sv v1 v2 s ∧ Lw P R R w (w.drewN n)) := fun n => ⟨h.on (fun _ _ => rfl) ((zD w n).mono (by have := h.ltP; omega)), (zD w n).mono (by have := h.ltP; omega), fun _ _ => rfl, fun _ _ _ => rfl⟩
  obtain ⟨q, c, eV⟩ := zd h.p2
  have HV : Hid (v2 = .slice q s.sp2.length c) := eV
  have c1 : w.cell? ⟨P, 8, none⟩ = some (.int .i64 (s.u2 : Int)) := z_ (i := 8) h.blk rfl
  have c2 : w.cell? ⟨P, 5, none⟩ = some (.slice q s.sp2.length c) := by rw [← eV]; exact z_ (i := 5) h.blk rfl
  rcases take2_some hx with ⟨hu, hl, rfl, rfl⟩ | ⟨hu, hp, rfl⟩
  · obtain ⟨G, hG⟩ : ∃ G, G = LnP P R mb w (s.ts.length : Int) { s with ts := s.ts ++ [2], sp2 := s.sp2 ++ [s.ts.length], u2 := s.u2 + 1 } := ⟨_, rfl⟩
    obtain ⟨u, hu0⟩ : ∃ u, u = s.u2 := ⟨_, rfl⟩
    obtain ⟨n, hn0⟩ : ∃ n, n = s.sp2.length := ⟨_, rfl⟩
    obtain ⟨m, hm0⟩ : ∃ m, m = s.ts.length := ⟨_, rfl⟩
    have hun : u = n := by omega
    have hn5 : n ≤ 100000 := by have := h.ok.p2; have := h.ok.ts; omega
    have HPl : Hid (∀ W, Wc R W P mb tv sv v1 v2 s ∧ Lw P R R w W → Calls Tryz.prog 68 #[ptr P, .int .i64 2] W (LtP P R mb sv v1 v2 W (m : Int) { s with ts := s.ts ++ [2] })) := fun W hW => by
      rw [hm0]
      exact place_c hW.1 (by unfold placeL; rw [show (decide (s.ts.length < 100000) && okI 2) = true by simp [hl, okI]]; rfl)
    have HAp : Hid (∀ R1 W1 tv1, Wc R1 W1 P mb tv1 sv v1 v2 { s with ts := s.ts ++ [2] } ∧ Lw P R R1 w W1 → ∃ g cap W2, (Builtin.append_ #[100, 100] 100 #[.slice q n c, .slice (some ⟨W1.heap.size, 0, none⟩) 1 1]).run Tryz.prog (W1.alloc (.cells #[.int .i64 (m : Int)] 3)) = .ok (.slice (some ⟨g, 0, none⟩) (n + 1) cap) W2 ∧ W2.cell? ⟨P, 5, none⟩ = some (.slice q n c) ∧ W2.frozen? ⟨P, 5, none⟩ = false ∧ ∃ R3, Wc R3 (W2.setCell ⟨P, 5, none⟩ (.slice (some ⟨g, 0, none⟩) (n + 1) cap)) P mb tv1 sv v1 (.slice (some ⟨g, 0, none⟩) (n + 1) cap) { s with ts := s.ts ++ [2], sp2 := s.sp2 ++ [s.ts.length] } ∧ Lw P R R3 w (W2.setCell ⟨P, 5, none⟩ (.slice (some ⟨g, 0, none⟩) (n + 1) cap))) := by
      rintro R1 W1 tv1 ⟨h1, h2⟩
      obtain ⟨g, cap, W2, hr, ho, hgr, hg, hgl⟩ := ap_row 3 100 1 8 _ info3 rfl (by decide) (by omega) und100 W1 P v2 s.sp2.length _ h1.p2 [.int .i64 (m : Int)] rfl (fun u hu => by simp at hu; subst hu; rfl) (by omega) (Nat.le_of_lt h1.ltP)
      obtain ⟨hW, hL⟩ := h1.app2 (p := m) hgr ho hg hgl (by rw [hm0]; exact h.ok.tak2 hl)
      have b2 : W2.heap[P]? = _ := (hgr.block P (by have := h1.ltP; simp; omega) (fun e => by have := h1.rP; rw [h1.r2 P e.symm] at this; omega)).trans ((zc h1.ltP).trans h1.blk)
      rw [← hn0] at hW hL hr
      rw [eV, ← hn0] at hr
      exact ⟨g, cap, W2, hr, by rw [hn0, ← eV]; exact z_ (i := 5) b2 rfl, zb b2 5, _, by rw [hm0] at hW; exact hW, h2.trans hL⟩
    have HOld : Hid (∀ R1 W1 tv1, Wc R1 W1 P mb tv1 sv v1 v2 { s with ts := s.ts ++ [2] } → W1.cell? ⟨P, 5, none⟩ = some (.slice q n c)) := fun R1 W1 tv1 h1 => by rw [hn0, ← eV]; exact z_ (i := 5) h1.blk rfl
    have HX : Hid (∀ R3 W3 tv3 g cap, Wc R3 W3 P mb tv3 sv v1 (.slice (some ⟨g, 0, none⟩) (n + 1) cap) { s with ts := s.ts ++ [2], sp2 := s.sp2 ++ [s.ts.length] } ∧ Lw P R R3 w W3 → (∀ k, G (.returned (.int .i64 (m : Int))) ((W3.setCell ⟨P, 8, none⟩ (.int .i64 ((n : Int) + 1))).drew.drewN k)) ∧ (W3.setCell ⟨P, 8, none⟩ (.int .i64 ((n : Int) + 1))).cell? ⟨P, 8, none⟩ = some (.int .i64 ((n : Int) + 1)) ∧ (W3.setCell ⟨P, 8, none⟩ (.int .i64 ((n : Int) + 1))).cell? ⟨P, 5, none⟩ = some (.slice (some ⟨g, 0, none⟩) (n + 1) cap) ∧ (W3.setCell ⟨P, 8, none⟩ (.int .i64 ((n : Int) + 1))).cell? ⟨g, n, none⟩ = some (.int .i64 (m : Int)) ∧ W3.cell? ⟨P, 8, none⟩ = some (.int .i64 (n : Int)) ∧ W3.frozen? ⟨P, 8, none⟩ = false) := by
      rintro R3 W3 tv3 g cap ⟨h1, h2⟩
      have hs := heap_setCell_same W3 P 8 _ _ (.int .i64 ((n : Int) + 1)) h1.blk
      obtain ⟨hW, hL⟩ := h1.setU (w' := W3.setCell ⟨P, 8, none⟩ (.int .i64 ((n : Int) + 1))) (s' := { s with ts := s.ts ++ [2], sp2 := s.sp2 ++ [s.ts.length], u2 := s.u2 + 1 }) (no := 0) bel_set (fun b hb hne => heap_setCell_other _ _ _ _ hne) (by rw [hs, ← hun, hu0]; rfl) rfl rfl rfl rfl rfl (h1.ok.us h1.ok.u1 (by show s.u2 + 1 ≤ 100001; omega))
      have hPr := hW.ltP
      refine ⟨fun k => by rw [hG, hm0]; exact ⟨rfl, R3, ⟨_, _, _, _, hW.on (fun _ _ => rfl) ((zl (P - 1) _).trans ((zD _ k).mono (Nat.le_trans (Nat.sub_le _ _) (Nat.le_of_lt hPr))))⟩, (h2.trans hL).trans ⟨(zl (P - 1) _).trans ((zD _ k).mono (Nat.le_trans (Nat.sub_le _ _) (Nat.le_of_lt hPr))), fun _ _ => rfl, fun _ _ _ => rfl⟩⟩, z_ (i := 8) hs rfl, ?_, ?_, ?_, zb h1.blk 8⟩
      · exact z_ (i := 5) hs rfl
      · have := hW.p2.cells (g := g) rfl n (.int .i64 (m : Int)) (by rw [hn0, hm0]; simp [nats])
        have e : (⟨g, 0, none⟩ : Addr).add n = ⟨g, n, none⟩ := by unfold Addr.add; split <;> simp_all
        rw [e] at this
        exact this
      · rw [← hun, hu0]; exact z_ (i := 8) h1.blk rfl
    rw [← hu0] at c1
    rw [← hn0] at c2
    rw [hun] at c1
    rw [← hG]
    clear h hx hu hb0 eV HV hu0 hn0 hG hl hm0 hun
    clear u
    go_enter Tryz.func213, Tryz.ntmps213
    go_wp2_with fail
    go_quiet (fail)
    go_wp2_with fail
    have HW0 : Hid (Wc R (w.drewN nq).drew P mb tv sv v1 v2 s ∧ Lw P R R w (w.drewN nq).drew) := HD.out (nq + 1)
    have c3 : (w.drewN nq).cell? ⟨P, 5, none⟩ = some (.slice q n c) := c2
    generalize w.drewN nq = W0 at HW0 c3 ⊢
    go_region_law (first
      | (refine step_run_append rfl (.tmp 26) (.tmp 30) 100 rfl (by simp [Act.eval]) (by simp [Act.eval]) HR2.out ?_)
      | (go_simp; go_at_call 68; refine (HPl.out _ HW0.out).mono ?_; rintro e w1 ⟨rfl, R1, tv1, hw, hl⟩; obtain ⟨g, cap, W2, r2, d2, f2, R3, hW3, hL3⟩ := HAp.out R1 w1 tv1 ⟨hw, HW0.out.2.trans hl⟩; have d1 : w1.cell? ⟨P, 5, none⟩ = some (.slice q n c) := HOld.out _ _ _ hw; have da : (w1.alloc (.cells #[.int .i64 (m : Int)] 3)).cell? ⟨P, 5, none⟩ = some (.slice q n c) := zk d1; have HR2 : Hid (_ = _) := r2; have HW3 : Hid (_ ∧ _) := ⟨hW3, hL3⟩; clear hw hl r2 hW3 hL3; dsimp only))
    all_goals
      obtain ⟨k1, k2, k3, k4, k5, k6⟩ := HX.out _ _ _ _ _ HW3.out
      generalize hW9 : W2.setCell ⟨P, 5, none⟩ (.slice (some ⟨g, 0, none⟩) (n + 1) cap) = W3 at k1 k2 k3 k4 k5 k6 ⊢
      have HK : Hid (∀ k, G (.returned (.int .i64 (m : Int))) ((W3.setCell ⟨P, 8, none⟩ (.int .i64 ((n : Int) + 1))).drew.drewN k)) := k1
      clear k1 hW9 d1 d2 f2 HR2 da
      go_wp2_with fail
      go_region
      go_wp2_with fail
      go_quiet (fail)
      go_wp2
      exact HK.out _
  · have hlt := (List.getElem?_eq_some_iff.1 hp).1
    have hne : ((s.u2 : Int) == (s.sp2.length : Int)) = false := by simp; omega
    obtain ⟨g1, cc1, e, -, -⟩ := h.p2.form (by omega)
    rw [eV] at e
    injection e with e1 e2 e3
    subst e1
    obtain ⟨u, hu0⟩ : ∃ u, u = s.u2 := ⟨_, rfl⟩
    obtain ⟨n, hn0⟩ : ∃ n, n = s.sp2.length := ⟨_, rfl⟩
    obtain ⟨G, hG⟩ : ∃ G, G = LnP P R mb w (p : Int) { s with u2 := s.u2 + 1 } := ⟨_, rfl⟩
    have HX : Hid (∀ W1, Wc R W1 P mb tv sv v1 v2 s ∧ Lw P R R w W1 → (∀ k, G (.returned (.int .i64 (p : Int))) ((W1.setCell ⟨P, 8, none⟩ (.int .i64 ((u : Int) + 1))).drew.drewN k)) ∧ (W1.setCell ⟨P, 8, none⟩ (.int .i64 ((u : Int) + 1))).cell? ⟨P, 8, none⟩ = some (.int .i64 ((u : Int) + 1)) ∧ (W1.setCell ⟨P, 8, none⟩ (.int .i64 ((u : Int) + 1))).cell? ⟨P, 5, none⟩ = some (.slice (some ⟨g1, 0, none⟩) n c) ∧ (W1.setCell ⟨P, 8, none⟩ (.int .i64 ((u : Int) + 1))).cell? ⟨g1, u, none⟩ = some (.int .i64 (p : Int)) ∧ W1.cell? ⟨P, 8, none⟩ = some (.int .i64 (u : Int)) ∧ W1.frozen? ⟨P, 8, none⟩ = false) := by
      rintro W1 ⟨h1, h2⟩
      have hs := heap_setCell_same W1 P 8 _ _ (.int .i64 ((u : Int) + 1)) h1.blk
      have hbb := h1.ok.p2
      have hbt := h1.ok.ts
      obtain ⟨hW, hL⟩ := h1.setU (w' := W1.setCell ⟨P, 8, none⟩ (.int .i64 ((u : Int) + 1))) (s' := { s with u2 := s.u2 + 1 }) (no := 0) bel_set (fun b hb hne => heap_setCell_other _ _ _ _ hne) (by rw [hs, hu0]; rfl) rfl rfl rfl rfl rfl (h1.ok.us h1.ok.u1 (by show s.u2 + 1 ≤ 100001; omega))
      have hPr := hW.ltP
      refine ⟨fun k => by rw [hG]; exact ⟨rfl, R, ⟨_, _, _, _, hW.on (fun _ _ => rfl) ((zl (P - 1) _).trans ((zD _ k).mono (Nat.le_trans (Nat.sub_le _ _) (Nat.le_of_lt hPr))))⟩, (h2.trans hL).trans ⟨(zl (P - 1) _).trans ((zD _ k).mono (Nat.le_trans (Nat.sub_le _ _) (Nat.le_of_lt hPr))), fun _ _ => rfl, fun _ _ _ => rfl⟩⟩, z_ (i := 8) hs rfl, ?_, ?_, ?_, zb h1.blk 8⟩
      · rw [hn0, ← eV]; exact z_ (i := 5) hs rfl
      · have := (eV ▸ hW.p2).cells (g := g1) rfl u (.int .i64 (p : Int)) (by rw [hu0]; simp [nats, hp])
        have e : (⟨g1, 0, none⟩ : Addr).add u = ⟨g1, u, none⟩ := by unfold Addr.add; split <;> simp_all
        rw [e] at this
        exact this
      · rw [hu0]; exact z_ (i := 8) h1.blk rfl
    have hun : u < n := by omega
    have hu5 : u ≤ 100000 := by have := h.ok.p2; have := h.ok.ts; omega
    rw [← hu0, ← hn0] at hne
    rw [← hu0] at c1
    rw [← hn0] at c2
    rw [← hG]
    clear h hx hu hp hb0 eV HV hlt hu0 hn0 e2 e3 hG
    go_enter Tryz.func213, Tryz.ntmps213
    go_wp2_with fail
    go_quiet (fail)
    go_wp2_with fail
    obtain ⟨k1, k2, k3, k4, k5, k6⟩ := HX.out _ (HD.out nq)
    generalize w.drewN nq = W1 at k1 k2 k3 k4 k5 k6 ⊢
    have HK : Hid (∀ k, G (.returned (.int .i64 (p : Int))) ((W1.setCell ⟨P, 8, none⟩ (.int .i64 ((u : Int) + 1))).drew.drewN k)) := k1
    clear k1
    go_region
    go_wp2_with fail
    go_quiet (fail)
    go_wp2
    exact HK.out _
end Go.Proofs.YtnfhpdbbfejioaaGreatDoor.Mid
