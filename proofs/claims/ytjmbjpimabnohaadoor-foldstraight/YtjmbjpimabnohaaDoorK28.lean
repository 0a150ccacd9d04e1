/- GB -/
import Derived.Test.YtjmbjpimabnohaaDoorK24
namespace Go.Proofs.YtjmbjpimabnohaaDoor.Mid
set_option linter.unusedVariables false
set_option linter.unusedSimpArgs false
open Go Go.RowKit
structure Ko0 (b0 sb : Nat) (w w' : World) : Prop where
  os : w'.os = w.os
  tape : w'.tape = w.tape
  output : w'.output = w.output
  size : w.heap.size ≤ w'.heap.size
  blk : ∀ b, b < b0 → b ≠ sb → w'.heap[b]? = w.heap[b]?
theorem Ko0.trans {b0 sb : Nat} {a b c : World} (h : Ko0 b0 sb a b) (g : Ko0 b0 sb b c) : Ko0 b0 sb a c := ⟨g.os.trans h.os, g.tape.trans h.tape, g.output.trans h.output, Nat.le_trans h.size g.size, fun k hk hz => by rw [g.blk k hk hz]; exact h.blk k hk hz⟩
theorem Ko0.of {b0 sb : Nat} {w w' : World} (h : Ko [sb] w w') (hb : b0 ≤ w.heap.size) : Ko0 b0 sb w w' := ⟨h.os, h.tape, h.output, h.size, fun b hb' hn => h.blk b (by omega) (by simpa using hn)⟩
theorem Ko0.new {b0 sb : Nat} (w : World) (hb : b0 ≤ w.heap.size) (o : Obj) : Ko0 b0 sb w (w.alloc o) := ⟨rfl, rfl, rfl, by simp, fun b hb' hn => row_eq_alloc (by omega)⟩
theorem Ko0.set {b0 sb : Nat} (w : World) {p : Addr} (hb : b0 ≤ p.block) (v : Value) : Ko0 b0 sb w (w.setCell p v) := ⟨rfl, rfl, rfl, by simp [World.setCell], fun b hb' hn => heap_setCell_other _ _ _ _ (by omega)⟩
structure WoI (w : World) (y : ByteArray) (tq : Option Addr) (nt tc sb ns sc : Nat) (l : List Ms) (J : Nat → List Ms → World → Prop) (i : Nat) (kept : List Ms) (wr : World) : Prop where
  size : w.heap.size + 2 ≤ wr.heap.size
  b0 : wr.heap[w.heap.size]? = some (.cells #[.string y, .int .i64 0, .slice tq nt tc, .slice (some ⟨sb, 0, none⟩) ns sc] 35)
  b1 : wr.heap[w.heap.size + 1]? = some fnZ
  row : WoR wr sb ns sc l kept i
  j : J i kept wr
  le : kept.length ≤ i
abbrev ClPost (w : World) (sb i : Nat) (cur : Array Value) (kept : List Ms) (J : Nat → List Ms → World → Prop) (W : World) (e : Ending) (W' : World) : Prop :=
  ∃ (b : Bool) (t : Ms) (cur' : Array Value), e = .returned (.bool b) ∧ KoX w.heap.size W W' ∧ W'.heap[sb]? = some (.cells cur' 44) ∧ cur'.size = cur.size ∧ (∀ o, o < 10 → cur'[i * 10 + o]? = (sC t)[o]?) ∧ (∀ p, (p < i * 10 ∨ i * 10 + 10 ≤ p) → cur'[p]? = cur[p]?) ∧ (b = true → J (i + 1) kept W') ∧ (b = false → J (i + 1) (kept ++ [t]) W')
theorem WoI.gone {w : World} {y : ByteArray} {tq : Option Addr} {nt tc sb ns sc : Nat} {l : List Ms} {J : Nat → List Ms → World → Prop} {i : Nat} {kept : List Ms} {wr w3 : World} {cur' : Array Value} (h : WoI w y tq nt tc sb ns sc l J i kept wr) (hx : KoX w.heap.size wr w3) (hc : w3.heap[sb]? = some (.cells cur' 44)) (hs : cur'.size = sc * 10) (hk : ∀ j s, kept[j]? = some s → ∀ o, o < 10 → cur'[j * 10 + o]? = (sC s)[o]?) (hl : ∀ j s, i + 1 ≤ j → l[j]? = some s → ∀ o, o < 10 → cur'[j * 10 + o]? = (sC s)[o]?) (hj : J (i + 1) kept w3) : WoI w y tq nt tc sb ns sc l J (i + 1) kept w3 := by
  have hz := h.size
  exact ⟨Nat.le_trans h.size hx.size, by rw [hx.blk _ (Nat.le_refl _) (by omega)]; exact h.b0, by rw [hx.blk _ (by omega) (by omega)]; exact h.b1, ⟨cur', hc, hs, hk, hl⟩, hj, by have := h.le; omega⟩
def WgP (w : World) (B : Nat) (y : ByteArray) (tq : Option Addr) (nt tc sb ns sc : Nat) (J : Nat → List Ms → World → Prop) (e : Ending) (w' : World) : Prop :=
  ∃ kept : List Ms, e = .returned (.agg #[.string y, .int .i64 0, .slice tq nt tc, .slice (some ⟨sb, 0, none⟩) kept.length sc]) ∧ kept.length ≤ ns ∧ J ns kept w' ∧ w'.ownsRow B 44 10 (.slice (some ⟨sb, 0, none⟩) kept.length sc) kept.length (rowC kept)
theorem WgP.fin {w : World} {B : Nat} {y : ByteArray} {tq : Option Addr} {nt tc sb ns sc : Nat} {l : List Ms} {J : Nat → List Ms → World → Prop} {kept : List Ms} {wr W' : World} (hB : B ≤ sb) (hsb : sb < w.heap.size) (hm : sc ≤ maxLen) (hns : ns ≤ sc) (hJs : ∀ i kept W W', J i kept W → Ko0 w.heap.size sb W W' → J i kept W') (h : WoI w y tq nt tc sb ns sc l J ns kept wr) {cur' : Array Value} (hc : W'.heap[sb]? = some (.cells cur' 44)) (hs : cur'.size = sc * 10) (hk : ∀ j s, kept[j]? = some s → ∀ o, o < 10 → cur'[j * 10 + o]? = (sC s)[o]?) (hk0 : Ko0 w.heap.size sb wr W') (k : Nat) (hkl : kept.length = k) : WgP w B y tq nt tc sb ns sc J (.returned (.agg #[.string y, .int .i64 0, .slice tq nt tc, .slice (some ⟨sb, 0, none⟩) k sc])) W' := by
  have hle := h.le
  refine ⟨kept, by rw [hkl], h.le, hJs _ _ _ _ h.j hk0, rowC_len kept, .inr ⟨sb, sc, cur', rfl, hB, hc, by omega, hm, hs, rowC_take hk (by omega)⟩⟩
set_option maxRecDepth 100000 in
set_option maxHeartbeats 4000000 in
theorem without_g78 (w : World) (B : Nat) (y : ByteArray) (tq : Option Addr) (nt tc sb sc ns : Nat) (l : List Ms) (kb fb : Nat) (hns : l.length = ns) (ho : w.ownsRow B 44 10 (.slice (some ⟨sb, 0, none⟩) ns sc) ns (rowC l)) (hp : 0 < ns) (hle : ns ≤ 1000)
    (J : Nat → List Ms → World → Prop) (hJ0 : J 0 [] w) (hJs : ∀ i kept W W', J i kept W → Ko0 w.heap.size sb W W' → J i kept W')
    (hcl : ∀ (W : World) (i : Nat) (kept : List Ms) (s : Ms) (cur : Array Value), w.heap.size ≤ W.heap.size → l[i]? = some s → J i kept W → W.heap[sb]? = some (.cells cur 44) → cur.size = sc * 10 → (∀ o, o < 10 → cur[i * 10 + o]? = (sC s)[o]?) → Calls Tryd.prog 78 #[.int .i64 (i : Int), ptr kb, ptr fb] W (ClPost w sb i cur kept J W)) :
    Calls Tryd.prog 68 #[.agg #[.string y, .int .i64 0, .slice tq nt tc, .slice (some ⟨sb, 0, none⟩) ns sc], .func (.func 78) #[] #[ptr kb, ptr fb]] w (WgP w B y tq nt tc sb ns sc J) := by
  obtain ⟨e1, hh⟩ := id ho
  obtain ⟨hB, hc0, hm0, cur, hg0, hz0, ht0⟩ : B ≤ sb ∧ ns ≤ sc ∧ sc ≤ maxLen ∧ ∃ cur : Array Value, w.heap[sb]? = some (.cells cur 44) ∧ cur.size = sc * 10 ∧ cur.toList.take (ns * 10) = rowC l := by
    rcases hh with ⟨e2, e3⟩ | ⟨g, cap, cur, a1, a2, a3, a4, a5, a6, a7⟩
    · omega
    · injection a1 with a1 _ a1'
      injection a1 with a1
      injection a1 with a1
      subst a1
      subst a1'
      exact ⟨a2, a4, a5, cur, a3, a6, a7⟩
  have hrow : ∀ j s, 0 ≤ j → l[j]? = some s → ∀ o, o < 10 → cur[j * 10 + o]? = (sC s)[o]? := fun i s _ hi j hj => by
    have hx := rowC_get l i s hi j hj
    have hlen : (sC s).length = 10 := rfl
    have hsi : (sC s)[j]? = some ((sC s)[j]'(by omega)) := List.getElem?_eq_getElem _
    rw [hsi] at hx ⊢
    rw [← ht0, List.getElem?_take] at hx
    split at hx
    · simpa using hx
    · cases hx
  have hsb : sb < w.heap.size := (Array.getElem?_eq_some_iff.1 hg0).1
  obtain ⟨W2, hW2⟩ : ∃ W2, W2 = (w.alloc (.cells #[.string y, .int .i64 0, .slice tq nt tc, .slice (some ⟨sb, 0, none⟩) ns sc] 35)).alloc fnZ := ⟨_, rfl⟩
  have hb2 : Below w.heap.size w W2 := by rw [hW2]; exact (al_bel _ _).trans ((al_bel (w.alloc _) _).mono (by simp))
  have hz2 : W2.heap.size = w.heap.size + 2 := by rw [hW2]; simp
  have k0 : W2.heap[w.heap.size]? = some (.cells #[.string y, .int .i64 0, .slice tq nt tc, .slice (some ⟨sb, 0, none⟩) ns sc] 35) := by rw [hW2, row_eq_alloc (by simp)]; exact heap_alloc_last _ _
  have k1 : W2.heap[w.heap.size + 1]? = some fnZ := by
    have e : (w.alloc (.cells #[.string y, .int .i64 0, .slice tq nt tc, .slice (some ⟨sb, 0, none⟩) ns sc] 35)).heap.size = w.heap.size + 1 := by simp
    rw [hW2, ← e]; exact heap_alloc_last _ _
  have HI0 : Hid (WoI w y tq nt tc sb ns sc l J 0 [] W2) := ⟨by omega, k0, k1, ⟨cur, by rw [hb2.block sb hsb]; exact hg0, hz0, fun j s hj => by simp at hj, hrow⟩, hJs _ _ _ _ hJ0 ⟨hb2.os, hb2.tape, hb2.output, hb2.size, fun b hb _ => hb2.block b hb⟩, Nat.le_refl _⟩
  have HJ : Hid ((∀ i kept W W', J i kept W → Ko0 w.heap.size sb W W' → J i kept W') ∧ B ≤ sb ∧ sb < w.heap.size ∧ sc ≤ maxLen) := ⟨hJs, hB, hsb, hm0⟩
  have HCl : Hid (∀ (W : World) (i : Nat) (kept : List Ms) (s : Ms) (cur : Array Value), w.heap.size ≤ W.heap.size → l[i]? = some s → J i kept W → W.heap[sb]? = some (.cells cur 44) → cur.size = sc * 10 → (∀ o, o < 10 → cur[i * 10 + o]? = (sC s)[o]?) → Calls Tryd.prog 78 #[.int .i64 (i : Int), ptr kb, ptr fb] W (ClPost w sb i cur kept J W)) := hcl
  have HN : Hid (l.length = ns) := hns
  generalize hG : WgP w B y tq nt tc sb ns sc J = G
  have HG : Hid (WgP w B y tq nt tc sb ns sc J = G) := hG
  have u3 := cell_at (i := 3) k0 rfl
  rw [hW2] at u3
  clear ho hcl hJ0 hJs hb2 hz2 k0 k1 hns hg0 ht0 hh e1 hm0 hz0 hrow hG hB
  go_enter Tryd.func68, Tryd.ntmps68
  go_wp2_with fail
  rw [← hW2]
  clear hW2 u3
  go_loopw [5, 13] (fun kv v wr => ∃ (i k : Nat) (kept : List Ms), i ≤ ns ∧ k ≤ i ∧ kv = .slice (some ⟨sb, 0, none⟩) k sc ∧ v = .int .i64 i ∧ Hid (kept.length = k) ∧ Hid (WoI w y tq nt tc sb ns sc l J i kept wr)) (fun _ v _ => ns - (intOf v).toNat)
  case atStart => exact ⟨0, 0, [], Nat.zero_le _, Nat.le_refl _, rfl, rfl, rfl, HI0⟩
  case round =>
    obtain ⟨i, k, kept, hin, hki, rfl, rfl, HKl, HI⟩ := hrel
    by_cases hlt : i < ns
    · obtain ⟨s, hsi⟩ : ∃ s, l[i]? = some s := ⟨l[i]'(by have := HN.out; omega), List.getElem?_eq_getElem _⟩
      obtain ⟨cur, c1, c2, c3, c4⟩ := HI.out.row
      have HC1 : Hid (Calls Tryd.prog 78 #[.int .i64 (i : Int), ptr kb, ptr fb] wr (ClPost w sb i cur kept J wr)) := HCl.out wr i kept s cur (by have := HI.out.size; omega) hsi HI.out.j c1 c2 (c4 i s (Nat.le_refl _) hsi)
      have HR : Hid (cur.size = sc * 10 ∧ (∀ j s, kept[j]? = some s → ∀ o, o < 10 → cur[j * 10 + o]? = (sC s)[o]?) ∧ ∀ j s, i ≤ j → l[j]? = some s → ∀ o, o < 10 → cur[j * 10 + o]? = (sC s)[o]?) := ⟨c2, c3, c4⟩
      clear c1 c2 c3 c4 hsi
      go_wp2_with (go_at_call 78; fail)
      refine HC1.out.mono ?_
      rintro e w3 ⟨b, t, cur', rfl, q1, q2, q3, q4, q5, q6, q7⟩
      have hkeep : ∀ j s, kept[j]? = some s → ∀ o, o < 10 → cur'[j * 10 + o]? = (sC s)[o]? := fun j s hj o ho => by
        have hjl := (List.getElem?_eq_some_iff.1 hj).1
        have := HI.out.le
        rw [q5 _ (by omega)]
        exact HR.out.2.1 j s hj o ho
      have hrest : ∀ j s, i + 1 ≤ j → l[j]? = some s → ∀ o, o < 10 → cur'[j * 10 + o]? = (sC s)[o]? := fun j s hj hl o ho => by
        rw [q5 _ (by omega)]
        exact HR.out.2.2 j s (by omega) hl o ho
      cases b with
      | true =>
        have HI2 : Hid (WoI w y tq nt tc sb ns sc l J (i + 1) kept w3) := HI.out.gone q1 q2 (by rw [q3]; exact HR.out.1) hkeep hrest (q6 rfl)
        clear q1 q2 q3 q4 q5 q6 q7 hkeep hrest
        go_wp2
        exact ⟨⟨i + 1, k, kept, by omega, by omega, rfl, by go_num, HKl, HI2⟩, by simp [intOf]; omega⟩
      | false =>
        have hz3 : w.heap.size + 2 ≤ w3.heap.size := Nat.le_trans HI.out.size q1.size
        have k0 : w3.heap[w.heap.size]? = some (.cells #[.string y, .int .i64 0, .slice tq nt tc, .slice (some ⟨sb, 0, none⟩) ns sc] 35) := by rw [q1.blk _ (Nat.le_refl _) (by have := HI.out.size; omega)]; exact HI.out.b0
        have k1 : w3.heap[w.heap.size + 1]? = some fnZ := by rw [q1.blk _ (by omega) (by have := HI.out.size; omega)]; exact HI.out.b1
        have x3 := cell_at (i := 3) k0 rfl
        have s0 : w3.cell? ⟨sb, i * 10, none⟩ = some (.int .i64 t.code) := cell_at q2 (by have := q4 0 (by omega); rw [Nat.add_zero] at this; exact this)
        have s1 : w3.cell? ⟨sb, i * 10 + 1, none⟩ = some (.int .i64 t.dst) := cell_at q2 (q4 1 (by omega))
        have s2 : w3.cell? ⟨sb, i * 10 + 2, none⟩ = some (.int .i64 t.a) := cell_at q2 (q4 2 (by omega))
        have s3 : w3.cell? ⟨sb, i * 10 + 3, none⟩ = some (.int .i64 t.b) := cell_at q2 (q4 3 (by omega))
        have s4 : w3.cell? ⟨sb, i * 10 + 4, none⟩ = some (.int .i64 t.c) := cell_at q2 (q4 4 (by omega))
        have s5 : w3.cell? ⟨sb, i * 10 + 5, none⟩ = some (.int .i64 t.n) := cell_at q2 (q4 5 (by omega))
        have s6 : w3.cell? ⟨sb, i * 10 + 6, none⟩ = some (.string ⟨t.op.toArray⟩) := cell_at q2 (q4 6 (by omega))
        have s7 : w3.cell? ⟨sb, i * 10 + 7, none⟩ = some (.int .i64 t.label) := cell_at q2 (q4 7 (by omega))
        have s8 : w3.cell? ⟨sb, i * 10 + 8, none⟩ = some (.string ⟨t.name.toArray⟩) := cell_at q2 (q4 8 (by omega))
        have s9 : w3.cell? ⟨sb, i * 10 + 9, none⟩ = some (.slice none 0 0) := cell_at q2 (q4 9 (by omega))
        obtain ⟨A, hA⟩ : ∃ A : Obj, A = .cells #[.int .i64 t.code, .int .i64 t.dst, .int .i64 t.a, .int .i64 t.b, .int .i64 t.c, .int .i64 t.n, .string ⟨t.op.toArray⟩, .int .i64 t.label, .string ⟨t.name.toArray⟩, .slice none 0 0] 44 := ⟨_, rfl⟩
        have hlt3 : sb < w3.heap.size := (Array.getElem?_eq_some_iff.1 q2).1
        have hcurA : (w3.alloc A).heap[sb]? = some (.cells cur' 44) := by rw [row_eq_alloc hlt3]; exact q2
        have hsz' : cur'.size = sc * 10 := by rw [q3]; exact HR.out.1
        have hrun := app_at2 (w3.alloc A) sb k sc w3.heap.size (sC t) rfl (by rw [hA]; exact World.news_of_block (cs := (sC t).toArray) (t := 44) (fr := (0, 0)) (heap_alloc_last w3 _)) (fun u hu => rowC_one [t] u (by unfold rowC; simpa using hu)) (by omega) cur' hcurA hsz'
        obtain ⟨cs, z1, z2, z3, z4, z5⟩ := sets_row sb (sC t) (k * 10) (w3.alloc A) cur' 44 hcurA (by show k * 10 + 10 ≤ _; omega)
        have z3' : ∀ o, o < 10 → cs[k * 10 + o]? = (sC t)[o]? := fun o ho => z3 o ho
        have z4' : ∀ p, (p < k * 10 ∨ k * 10 + 10 ≤ p) → cs[p]? = cur'[p]? := fun p hp => z4 p hp
        obtain ⟨W9, hW9⟩ : ∃ W9, (w3.alloc A).setCells sb (k * 10) (sC t) = W9 := ⟨_, rfl⟩
        rw [hW9] at hrun z1 z5
        have hA2 : ∀ b, b < w3.heap.size → (w3.alloc A).heap[b]? = w3.heap[b]? := fun b hb => row_eq_alloc hb
        have HI9 : Hid (WoI w y tq nt tc sb ns sc l J (i + 1) (kept ++ [t]) W9) := by
          have hsbw := HJ.out.2.2.1
          have hzA : (w3.alloc A).heap.size = w3.heap.size + 1 := by simp
          refine ⟨by have := z5.size; omega, ?_, ?_, ⟨cs, z1, by rw [z2]; exact hsz', fun j s hj o ho => ?_, fun j s hj hl o ho => ?_⟩, HJ.out.1 _ _ _ _ (q7 rfl) ((Ko0.new w3 (by omega) A).trans (Ko0.of z5 (by omega))), ?_⟩
          · rw [z5.blk _ (by omega) (by simp; omega), hA2 _ (by omega)]; exact k0
          · rw [z5.blk _ (by omega) (by simp; omega), hA2 _ (by omega)]; exact k1
          · by_cases hjk : j < kept.length
            · rw [List.getElem?_append_left hjk] at hj
              have := HKl.out
              rw [z4' _ (by omega)]
              exact hkeep j s hj o ho
            · rw [List.getElem?_append_right (by omega)] at hj
              have hj0 : j - kept.length = 0 := by
                have := (List.getElem?_eq_some_iff.1 hj).1
                simp at this
                omega
              rw [hj0] at hj
              simp at hj
              subst hj
              have := HKl.out
              rw [show j = k by omega]
              exact z3' o ho
          · rw [z4' _ (by omega)]
            exact hrest j s hj hl o ho
          · rw [List.length_append]
            have := HI.out.le
            simp
            omega
        have HKl9 : Hid ((kept ++ [t]).length = k + 1) := by show _ = _; rw [List.length_append, HKl.out]; rfl
        have HR9 : Hid ((Builtin.append_ #[33, 33] 33 #[.slice (some ⟨sb, 0, none⟩) k sc, .slice (some ⟨w3.heap.size, 0, none⟩) 1 1]).run Tryd.prog (w3.alloc A) = .ok (.slice (some ⟨sb, 0, none⟩) (k + 1) sc) W9) := hrun
        generalize t.code = v0 at s0 hA
        generalize t.dst = v1 at s1 hA
        generalize t.a = v2 at s2 hA
        generalize t.b = v3 at s3 hA
        generalize t.c = v4 at s4 hA
        generalize t.n = v5 at s5 hA
        generalize t.label = v7 at s7 hA
        generalize (⟨t.op.toArray⟩ : ByteArray) = v6 at s6 hA
        generalize (⟨t.name.toArray⟩ : ByteArray) = v8 at s8 hA
        rw [hA] at HR9
        clear q1 q2 q3 q4 q5 q6 q7 hkeep hrest k0 k1 hcurA hrun hW9 hA z1 z2 z3 z3' z4 z4' z5 hA2 hsz' hlt3 hz3
        have hl9 : (i : Int) < (ns : Int) := by omega
        go_wp2_with (at_builtin; refine wpl_run_append _ rfl _ _ 33 33 rfl rfl rfl HR9.out ?_)
        go_wp2
        exact ⟨⟨i + 1, k + 1, kept ++ [t], by omega, by omega, rfl, by go_num, HKl9, HI9⟩, by simp [intOf]; omega⟩
    · have hie : ns = i := by omega
      subst hie
      obtain ⟨cur, c1, c2, c3, c4⟩ := HI.out.row
      obtain ⟨W8, cs8, d0, d1, d2, d3, d4, d5⟩ : ∃ W8 cs8, (sc = k → W8 = wr) ∧ (sc ≠ k → ∀ ty, (Builtin.clear_ #[33] ty #[.slice (some ⟨sb, k * 10, none⟩) (ns - k) (sc - k)]).run Tryd.prog wr = .ok (.tuple #[]) W8) ∧ W8.heap[sb]? = some (.cells cs8 44) ∧ cs8.size = cur.size ∧ (∀ p, p < k * 10 → cs8[p]? = cur[p]?) ∧ Ko [sb] wr W8 := by
        by_cases hks : sc = k
        · exact ⟨wr, cur, fun _ => rfl, fun h => absurd hks h, c1, rfl, fun _ _ => rfl, Ko.refl _ _⟩
        · obtain ⟨W8, cs8, d1, d2, d3, d4, d5⟩ := clear_rows wr sb k (ns - k) (sc - k) cur c1 (by omega)
          exact ⟨W8, cs8, fun h => absurd h hks, fun _ => d1, d2, d3, d4, d5⟩
      have k0 : W8.heap[w.heap.size]? = some (.cells #[.string y, .int .i64 0, .slice tq nt tc, .slice (some ⟨sb, 0, none⟩) ns sc] 35) := by rw [d5.blk _ (by have := HI.out.size; omega) (by have := HJ.out.2.2.1; simp; omega)]; exact HI.out.b0
      have k1 : W8.heap[w.heap.size + 1]? = some fnZ := by rw [d5.blk _ (by have := HI.out.size; omega) (by have := HJ.out.2.2.1; simp; omega)]; exact HI.out.b1
      have y3 := cell_at (i := 3) HI.out.b0 rfl
      have x0 := cell_at (i := 0) k0 rfl
      have x1 := cell_at (i := 1) k0 rfl
      have x2 := cell_at (i := 2) k0 rfl
      have x3 := cell_at (i := 3) k0 rfl
      have f3 := row_free k0 3
      have z0 := cell_at (i := 0) k1 rfl
      have z1 := cell_at (i := 1) k1 rfl
      have z2 := cell_at (i := 2) k1 rfl
      have z3 := cell_at (i := 3) k1 rfl
      have g0 := row_free k1 0
      have g1 := row_free k1 1
      have g2 := row_free k1 2
      have g3 := row_free k1 3
      have HK : Hid (W8.heap[w.heap.size]? = some (.cells #[.string y, .int .i64 0, .slice tq nt tc, .slice (some ⟨sb, 0, none⟩) ns sc] 35) ∧ W8.heap[w.heap.size + 1]? = some fnZ) := ⟨k0, k1⟩
      have HF : Hid (∀ W', Ko0 w.heap.size sb W8 W' → W'.heap[sb]? = W8.heap[sb]? → G (.returned (.agg #[.string y, .int .i64 0, .slice tq nt tc, .slice (some ⟨sb, 0, none⟩) k sc])) W') := fun W' hW hs => by
        rw [← HG.out]
        refine WgP.fin HJ.out.2.1 HJ.out.2.2.1 HJ.out.2.2.2 hc0 HJ.out.1 HI.out (cur' := cs8) (by rw [hs]; exact d2) (by rw [d3]; exact c2) (fun j s hj o ho => ?_) ((Ko0.of d5 (by have := HI.out.size; omega)).trans hW) k HKl.out
        have hjl := (List.getElem?_eq_some_iff.1 hj).1
        rw [d4 _ (by have := HKl.out; omega)]
        exact c3 j s hj o ho
      clear k0 k1 c1 c2 c3 c4 d2 d3 d4 d5 hin
      have HSb : Hid (sb < w.heap.size) := hsb
      by_cases hks : sc = k
      · obtain rfl := d0 hks
        have e9 : ns = k := by omega
        have hclr := clear_none
        subst e9
        subst hks
        clear d1 d0
        go_wp2
        refine bodyPost_ret (res68 _ _ (w.heap.size + 1) _ _ _ _ rfl (set4 (x := .string ⟨#[]⟩) (y := .int .i64 0) (z := .slice none 0 0) (u := .slice none 0 0) (by rw [heap_setCell_other _ _ _ _ (by show w.heap.size + 1 ≠ w.heap.size; omega)]; exact HK.out.2))) rfl ?_
        refine HF.out _ (((((Ko0.set _ (p := ⟨w.heap.size, 3, none⟩) (Nat.le_refl _) _).trans (Ko0.set _ (p := ⟨w.heap.size + 1, 0, none⟩) (Nat.le_succ _) _)).trans (Ko0.set _ (p := ⟨w.heap.size + 1, 1, none⟩) (Nat.le_succ _) _)).trans (Ko0.set _ (p := ⟨w.heap.size + 1, 2, none⟩) (Nat.le_succ _) _)).trans (Ko0.set _ (p := ⟨w.heap.size + 1, 3, none⟩) (Nat.le_succ _) _)) ?_
        have := HSb.out
        rw [heap_setCell_other _ _ _ _ (by show sb ≠ w.heap.size + 1; omega), heap_setCell_other _ _ _ _ (by show sb ≠ w.heap.size + 1; omega), heap_setCell_other _ _ _ _ (by show sb ≠ w.heap.size + 1; omega), heap_setCell_other _ _ _ _ (by show sb ≠ w.heap.size + 1; omega), heap_setCell_other _ _ _ _ (by show sb ≠ w.heap.size; omega)]
      · have d1' := d1 hks
        clear d1 d0
        have hks2 : k < sc := by omega
        go_wp2
        refine bodyPost_ret (res68 _ _ (w.heap.size + 1) _ _ _ _ rfl (set4 (x := .string ⟨#[]⟩) (y := .int .i64 0) (z := .slice none 0 0) (u := .slice none 0 0) (by rw [heap_setCell_other _ _ _ _ (by show w.heap.size + 1 ≠ w.heap.size; omega)]; exact HK.out.2))) rfl ?_
        refine HF.out _ (((((Ko0.set _ (p := ⟨w.heap.size, 3, none⟩) (Nat.le_refl _) _).trans (Ko0.set _ (p := ⟨w.heap.size + 1, 0, none⟩) (Nat.le_succ _) _)).trans (Ko0.set _ (p := ⟨w.heap.size + 1, 1, none⟩) (Nat.le_succ _) _)).trans (Ko0.set _ (p := ⟨w.heap.size + 1, 2, none⟩) (Nat.le_succ _) _)).trans (Ko0.set _ (p := ⟨w.heap.size + 1, 3, none⟩) (Nat.le_succ _) _)) ?_
        have := HSb.out
        rw [heap_setCell_other _ _ _ _ (by show sb ≠ w.heap.size + 1; omega), heap_setCell_other _ _ _ _ (by show sb ≠ w.heap.size + 1; omega), heap_setCell_other _ _ _ _ (by show sb ≠ w.heap.size + 1; omega), heap_setCell_other _ _ _ _ (by show sb ≠ w.heap.size + 1; omega), heap_setCell_other _ _ _ _ (by show sb ≠ w.heap.size; omega)]
set_option maxRecDepth 100000 in
set_option maxHeartbeats 4000000 in
theorem without_g75 (w : World) (B : Nat) (y : ByteArray) (tq : Option Addr) (nt tc sb sc ns : Nat) (l : List Ms) (nb : Nat) (hns : l.length = ns) (ho : w.ownsRow B 44 10 (.slice (some ⟨sb, 0, none⟩) ns sc) ns (rowC l)) (hp : 0 < ns) (hle : ns ≤ 1000)
    (J : Nat → List Ms → World → Prop) (hJ0 : J 0 [] w) (hJs : ∀ i kept W W', J i kept W → Ko0 w.heap.size sb W W' → J i kept W')
    (hcl : ∀ (W : World) (i : Nat) (kept : List Ms) (s : Ms) (cur : Array Value), w.heap.size ≤ W.heap.size → l[i]? = some s → J i kept W → W.heap[sb]? = some (.cells cur 44) → cur.size = sc * 10 → (∀ o, o < 10 → cur[i * 10 + o]? = (sC s)[o]?) → Calls Tryd.prog 75 #[.int .i64 (i : Int), ptr nb] W (ClPost w sb i cur kept J W)) :
    Calls Tryd.prog 68 #[.agg #[.string y, .int .i64 0, .slice tq nt tc, .slice (some ⟨sb, 0, none⟩) ns sc], .func (.func 75) #[] #[ptr nb]] w (WgP w B y tq nt tc sb ns sc J) := by
  obtain ⟨e1, hh⟩ := id ho
  obtain ⟨hB, hc0, hm0, cur, hg0, hz0, ht0⟩ : B ≤ sb ∧ ns ≤ sc ∧ sc ≤ maxLen ∧ ∃ cur : Array Value, w.heap[sb]? = some (.cells cur 44) ∧ cur.size = sc * 10 ∧ cur.toList.take (ns * 10) = rowC l := by
    rcases hh with ⟨e2, e3⟩ | ⟨g, cap, cur, a1, a2, a3, a4, a5, a6, a7⟩
    · omega
    · injection a1 with a1 _ a1'
      injection a1 with a1
      injection a1 with a1
      subst a1
      subst a1'
      exact ⟨a2, a4, a5, cur, a3, a6, a7⟩
  have hrow : ∀ j s, 0 ≤ j → l[j]? = some s → ∀ o, o < 10 → cur[j * 10 + o]? = (sC s)[o]? := fun i s _ hi j hj => by
    have hx := rowC_get l i s hi j hj
    have hlen : (sC s).length = 10 := rfl
    have hsi : (sC s)[j]? = some ((sC s)[j]'(by omega)) := List.getElem?_eq_getElem _
    rw [hsi] at hx ⊢
    rw [← ht0, List.getElem?_take] at hx
    split at hx
    · simpa using hx
    · cases hx
  have hsb : sb < w.heap.size := (Array.getElem?_eq_some_iff.1 hg0).1
  obtain ⟨W2, hW2⟩ : ∃ W2, W2 = (w.alloc (.cells #[.string y, .int .i64 0, .slice tq nt tc, .slice (some ⟨sb, 0, none⟩) ns sc] 35)).alloc fnZ := ⟨_, rfl⟩
  have hb2 : Below w.heap.size w W2 := by rw [hW2]; exact (al_bel _ _).trans ((al_bel (w.alloc _) _).mono (by simp))
  have hz2 : W2.heap.size = w.heap.size + 2 := by rw [hW2]; simp
  have k0 : W2.heap[w.heap.size]? = some (.cells #[.string y, .int .i64 0, .slice tq nt tc, .slice (some ⟨sb, 0, none⟩) ns sc] 35) := by rw [hW2, row_eq_alloc (by simp)]; exact heap_alloc_last _ _
  have k1 : W2.heap[w.heap.size + 1]? = some fnZ := by
    have e : (w.alloc (.cells #[.string y, .int .i64 0, .slice tq nt tc, .slice (some ⟨sb, 0, none⟩) ns sc] 35)).heap.size = w.heap.size + 1 := by simp
    rw [hW2, ← e]; exact heap_alloc_last _ _
  have HI0 : Hid (WoI w y tq nt tc sb ns sc l J 0 [] W2) := ⟨by omega, k0, k1, ⟨cur, by rw [hb2.block sb hsb]; exact hg0, hz0, fun j s hj => by simp at hj, hrow⟩, hJs _ _ _ _ hJ0 ⟨hb2.os, hb2.tape, hb2.output, hb2.size, fun b hb _ => hb2.block b hb⟩, Nat.le_refl _⟩
  have HJ : Hid ((∀ i kept W W', J i kept W → Ko0 w.heap.size sb W W' → J i kept W') ∧ B ≤ sb ∧ sb < w.heap.size ∧ sc ≤ maxLen) := ⟨hJs, hB, hsb, hm0⟩
  have HCl : Hid (∀ (W : World) (i : Nat) (kept : List Ms) (s : Ms) (cur : Array Value), w.heap.size ≤ W.heap.size → l[i]? = some s → J i kept W → W.heap[sb]? = some (.cells cur 44) → cur.size = sc * 10 → (∀ o, o < 10 → cur[i * 10 + o]? = (sC s)[o]?) → Calls Tryd.prog 75 #[.int .i64 (i : Int), ptr nb] W (ClPost w sb i cur kept J W)) := hcl
  have HN : Hid (l.length = ns) := hns
  generalize hG : WgP w B y tq nt tc sb ns sc J = G
  have HG : Hid (WgP w B y tq nt tc sb ns sc J = G) := hG
  have u3 := cell_at (i := 3) k0 rfl
  rw [hW2] at u3
  clear ho hcl hJ0 hJs hb2 hz2 k0 k1 hns hg0 ht0 hh e1 hm0 hz0 hrow hG hB
  go_enter Tryd.func68, Tryd.ntmps68
  go_wp2_with fail
  rw [← hW2]
  clear hW2 u3
  go_loopw [5, 13] (fun kv v wr => ∃ (i k : Nat) (kept : List Ms), i ≤ ns ∧ k ≤ i ∧ kv = .slice (some ⟨sb, 0, none⟩) k sc ∧ v = .int .i64 i ∧ Hid (kept.length = k) ∧ Hid (WoI w y tq nt tc sb ns sc l J i kept wr)) (fun _ v _ => ns - (intOf v).toNat)
  case atStart => exact ⟨0, 0, [], Nat.zero_le _, Nat.le_refl _, rfl, rfl, rfl, HI0⟩
  case round =>
    obtain ⟨i, k, kept, hin, hki, rfl, rfl, HKl, HI⟩ := hrel
    by_cases hlt : i < ns
    · obtain ⟨s, hsi⟩ : ∃ s, l[i]? = some s := ⟨l[i]'(by have := HN.out; omega), List.getElem?_eq_getElem _⟩
      obtain ⟨cur, c1, c2, c3, c4⟩ := HI.out.row
      have HC1 : Hid (Calls Tryd.prog 75 #[.int .i64 (i : Int), ptr nb] wr (ClPost w sb i cur kept J wr)) := HCl.out wr i kept s cur (by have := HI.out.size; omega) hsi HI.out.j c1 c2 (c4 i s (Nat.le_refl _) hsi)
      have HR : Hid (cur.size = sc * 10 ∧ (∀ j s, kept[j]? = some s → ∀ o, o < 10 → cur[j * 10 + o]? = (sC s)[o]?) ∧ ∀ j s, i ≤ j → l[j]? = some s → ∀ o, o < 10 → cur[j * 10 + o]? = (sC s)[o]?) := ⟨c2, c3, c4⟩
      clear c1 c2 c3 c4 hsi
      go_wp2_with (go_at_call 75; fail)
      refine HC1.out.mono ?_
      rintro e w3 ⟨b, t, cur', rfl, q1, q2, q3, q4, q5, q6, q7⟩
      have hkeep : ∀ j s, kept[j]? = some s → ∀ o, o < 10 → cur'[j * 10 + o]? = (sC s)[o]? := fun j s hj o ho => by
        have hjl := (List.getElem?_eq_some_iff.1 hj).1
        have := HI.out.le
        rw [q5 _ (by omega)]
        exact HR.out.2.1 j s hj o ho
      have hrest : ∀ j s, i + 1 ≤ j → l[j]? = some s → ∀ o, o < 10 → cur'[j * 10 + o]? = (sC s)[o]? := fun j s hj hl o ho => by
        rw [q5 _ (by omega)]
        exact HR.out.2.2 j s (by omega) hl o ho
      cases b with
      | true =>
        have HI2 : Hid (WoI w y tq nt tc sb ns sc l J (i + 1) kept w3) := HI.out.gone q1 q2 (by rw [q3]; exact HR.out.1) hkeep hrest (q6 rfl)
        clear q1 q2 q3 q4 q5 q6 q7 hkeep hrest
        go_wp2
        exact ⟨⟨i + 1, k, kept, by omega, by omega, rfl, by go_num, HKl, HI2⟩, by simp [intOf]; omega⟩
      | false =>
        have hz3 : w.heap.size + 2 ≤ w3.heap.size := Nat.le_trans HI.out.size q1.size
        have k0 : w3.heap[w.heap.size]? = some (.cells #[.string y, .int .i64 0, .slice tq nt tc, .slice (some ⟨sb, 0, none⟩) ns sc] 35) := by rw [q1.blk _ (Nat.le_refl _) (by have := HI.out.size; omega)]; exact HI.out.b0
        have k1 : w3.heap[w.heap.size + 1]? = some fnZ := by rw [q1.blk _ (by omega) (by have := HI.out.size; omega)]; exact HI.out.b1
        have x3 := cell_at (i := 3) k0 rfl
        have s0 : w3.cell? ⟨sb, i * 10, none⟩ = some (.int .i64 t.code) := cell_at q2 (by have := q4 0 (by omega); rw [Nat.add_zero] at this; exact this)
        have s1 : w3.cell? ⟨sb, i * 10 + 1, none⟩ = some (.int .i64 t.dst) := cell_at q2 (q4 1 (by omega))
        have s2 : w3.cell? ⟨sb, i * 10 + 2, none⟩ = some (.int .i64 t.a) := cell_at q2 (q4 2 (by omega))
        have s3 : w3.cell? ⟨sb, i * 10 + 3, none⟩ = some (.int .i64 t.b) := cell_at q2 (q4 3 (by omega))
        have s4 : w3.cell? ⟨sb, i * 10 + 4, none⟩ = some (.int .i64 t.c) := cell_at q2 (q4 4 (by omega))
        have s5 : w3.cell? ⟨sb, i * 10 + 5, none⟩ = some (.int .i64 t.n) := cell_at q2 (q4 5 (by omega))
        have s6 : w3.cell? ⟨sb, i * 10 + 6, none⟩ = some (.string ⟨t.op.toArray⟩) := cell_at q2 (q4 6 (by omega))
        have s7 : w3.cell? ⟨sb, i * 10 + 7, none⟩ = some (.int .i64 t.label) := cell_at q2 (q4 7 (by omega))
        have s8 : w3.cell? ⟨sb, i * 10 + 8, none⟩ = some (.string ⟨t.name.toArray⟩) := cell_at q2 (q4 8 (by omega))
        have s9 : w3.cell? ⟨sb, i * 10 + 9, none⟩ = some (.slice none 0 0) := cell_at q2 (q4 9 (by omega))
        obtain ⟨A, hA⟩ : ∃ A : Obj, A = .cells #[.int .i64 t.code, .int .i64 t.dst, .int .i64 t.a, .int .i64 t.b, .int .i64 t.c, .int .i64 t.n, .string ⟨t.op.toArray⟩, .int .i64 t.label, .string ⟨t.name.toArray⟩, .slice none 0 0] 44 := ⟨_, rfl⟩
        have hlt3 : sb < w3.heap.size := (Array.getElem?_eq_some_iff.1 q2).1
        have hcurA : (w3.alloc A).heap[sb]? = some (.cells cur' 44) := by rw [row_eq_alloc hlt3]; exact q2
        have hsz' : cur'.size = sc * 10 := by rw [q3]; exact HR.out.1
        have hrun := app_at2 (w3.alloc A) sb k sc w3.heap.size (sC t) rfl (by rw [hA]; exact World.news_of_block (cs := (sC t).toArray) (t := 44) (fr := (0, 0)) (heap_alloc_last w3 _)) (fun u hu => rowC_one [t] u (by unfold rowC; simpa using hu)) (by omega) cur' hcurA hsz'
        obtain ⟨cs, z1, z2, z3, z4, z5⟩ := sets_row sb (sC t) (k * 10) (w3.alloc A) cur' 44 hcurA (by show k * 10 + 10 ≤ _; omega)
        have z3' : ∀ o, o < 10 → cs[k * 10 + o]? = (sC t)[o]? := fun o ho => z3 o ho
        have z4' : ∀ p, (p < k * 10 ∨ k * 10 + 10 ≤ p) → cs[p]? = cur'[p]? := fun p hp => z4 p hp
        obtain ⟨W9, hW9⟩ : ∃ W9, (w3.alloc A).setCells sb (k * 10) (sC t) = W9 := ⟨_, rfl⟩
        rw [hW9] at hrun z1 z5
        have hA2 : ∀ b, b < w3.heap.size → (w3.alloc A).heap[b]? = w3.heap[b]? := fun b hb => row_eq_alloc hb
        have HI9 : Hid (WoI w y tq nt tc sb ns sc l J (i + 1) (kept ++ [t]) W9) := by
          have hsbw := HJ.out.2.2.1
          have hzA : (w3.alloc A).heap.size = w3.heap.size + 1 := by simp
          refine ⟨by have := z5.size; omega, ?_, ?_, ⟨cs, z1, by rw [z2]; exact hsz', fun j s hj o ho => ?_, fun j s hj hl o ho => ?_⟩, HJ.out.1 _ _ _ _ (q7 rfl) ((Ko0.new w3 (by omega) A).trans (Ko0.of z5 (by omega))), ?_⟩
          · rw [z5.blk _ (by omega) (by simp; omega), hA2 _ (by omega)]; exact k0
          · rw [z5.blk _ (by omega) (by simp; omega), hA2 _ (by omega)]; exact k1
          · by_cases hjk : j < kept.length
            · rw [List.getElem?_append_left hjk] at hj
              have := HKl.out
              rw [z4' _ (by omega)]
              exact hkeep j s hj o ho
            · rw [List.getElem?_append_right (by omega)] at hj
              have hj0 : j - kept.length = 0 := by
                have := (List.getElem?_eq_some_iff.1 hj).1
                simp at this
                omega
              rw [hj0] at hj
              simp at hj
              subst hj
              have := HKl.out
              rw [show j = k by omega]
              exact z3' o ho
          · rw [z4' _ (by omega)]
            exact hrest j s hj hl o ho
          · rw [List.length_append]
            have := HI.out.le
            simp
            omega
        have HKl9 : Hid ((kept ++ [t]).length = k + 1) := by show _ = _; rw [List.length_append, HKl.out]; rfl
        have HR9 : Hid ((Builtin.append_ #[33, 33] 33 #[.slice (some ⟨sb, 0, none⟩) k sc, .slice (some ⟨w3.heap.size, 0, none⟩) 1 1]).run Tryd.prog (w3.alloc A) = .ok (.slice (some ⟨sb, 0, none⟩) (k + 1) sc) W9) := hrun
        generalize t.code = v0 at s0 hA
        generalize t.dst = v1 at s1 hA
        generalize t.a = v2 at s2 hA
        generalize t.b = v3 at s3 hA
        generalize t.c = v4 at s4 hA
        generalize t.n = v5 at s5 hA
        generalize t.label = v7 at s7 hA
        generalize (⟨t.op.toArray⟩ : ByteArray) = v6 at s6 hA
        generalize (⟨t.name.toArray⟩ : ByteArray) = v8 at s8 hA
        rw [hA] at HR9
        clear q1 q2 q3 q4 q5 q6 q7 hkeep hrest k0 k1 hcurA hrun hW9 hA z1 z2 z3 z3' z4 z4' z5 hA2 hsz' hlt3 hz3
        have hl9 : (i : Int) < (ns : Int) := by omega
        go_wp2_with (at_builtin; refine wpl_run_append _ rfl _ _ 33 33 rfl rfl rfl HR9.out ?_)
        go_wp2
        exact ⟨⟨i + 1, k + 1, kept ++ [t], by omega, by omega, rfl, by go_num, HKl9, HI9⟩, by simp [intOf]; omega⟩
    · have hie : ns = i := by omega
      subst hie
      obtain ⟨cur, c1, c2, c3, c4⟩ := HI.out.row
      obtain ⟨W8, cs8, d0, d1, d2, d3, d4, d5⟩ : ∃ W8 cs8, (sc = k → W8 = wr) ∧ (sc ≠ k → ∀ ty, (Builtin.clear_ #[33] ty #[.slice (some ⟨sb, k * 10, none⟩) (ns - k) (sc - k)]).run Tryd.prog wr = .ok (.tuple #[]) W8) ∧ W8.heap[sb]? = some (.cells cs8 44) ∧ cs8.size = cur.size ∧ (∀ p, p < k * 10 → cs8[p]? = cur[p]?) ∧ Ko [sb] wr W8 := by
        by_cases hks : sc = k
        · exact ⟨wr, cur, fun _ => rfl, fun h => absurd hks h, c1, rfl, fun _ _ => rfl, Ko.refl _ _⟩
        · obtain ⟨W8, cs8, d1, d2, d3, d4, d5⟩ := clear_rows wr sb k (ns - k) (sc - k) cur c1 (by omega)
          exact ⟨W8, cs8, fun h => absurd h hks, fun _ => d1, d2, d3, d4, d5⟩
      have k0 : W8.heap[w.heap.size]? = some (.cells #[.string y, .int .i64 0, .slice tq nt tc, .slice (some ⟨sb, 0, none⟩) ns sc] 35) := by rw [d5.blk _ (by have := HI.out.size; omega) (by have := HJ.out.2.2.1; simp; omega)]; exact HI.out.b0
      have k1 : W8.heap[w.heap.size + 1]? = some fnZ := by rw [d5.blk _ (by have := HI.out.size; omega) (by have := HJ.out.2.2.1; simp; omega)]; exact HI.out.b1
      have y3 := cell_at (i := 3) HI.out.b0 rfl
      have x0 := cell_at (i := 0) k0 rfl
      have x1 := cell_at (i := 1) k0 rfl
      have x2 := cell_at (i := 2) k0 rfl
      have x3 := cell_at (i := 3) k0 rfl
      have f3 := row_free k0 3
      have z0 := cell_at (i := 0) k1 rfl
      have z1 := cell_at (i := 1) k1 rfl
      have z2 := cell_at (i := 2) k1 rfl
      have z3 := cell_at (i := 3) k1 rfl
      have g0 := row_free k1 0
      have g1 := row_free k1 1
      have g2 := row_free k1 2
      have g3 := row_free k1 3
      have HK : Hid (W8.heap[w.heap.size]? = some (.cells #[.string y, .int .i64 0, .slice tq nt tc, .slice (some ⟨sb, 0, none⟩) ns sc] 35) ∧ W8.heap[w.heap.size + 1]? = some fnZ) := ⟨k0, k1⟩
      have HF : Hid (∀ W', Ko0 w.heap.size sb W8 W' → W'.heap[sb]? = W8.heap[sb]? → G (.returned (.agg #[.string y, .int .i64 0, .slice tq nt tc, .slice (some ⟨sb, 0, none⟩) k sc])) W') := fun W' hW hs => by
        rw [← HG.out]
        refine WgP.fin HJ.out.2.1 HJ.out.2.2.1 HJ.out.2.2.2 hc0 HJ.out.1 HI.out (cur' := cs8) (by rw [hs]; exact d2) (by rw [d3]; exact c2) (fun j s hj o ho => ?_) ((Ko0.of d5 (by have := HI.out.size; omega)).trans hW) k HKl.out
        have hjl := (List.getElem?_eq_some_iff.1 hj).1
        rw [d4 _ (by have := HKl.out; omega)]
        exact c3 j s hj o ho
      clear k0 k1 c1 c2 c3 c4 d2 d3 d4 d5 hin
      have HSb : Hid (sb < w.heap.size) := hsb
      by_cases hks : sc = k
      · obtain rfl := d0 hks
        have e9 : ns = k := by omega
        have hclr := clear_none
        subst e9
        subst hks
        clear d1 d0
        go_wp2
        refine bodyPost_ret (res68 _ _ (w.heap.size + 1) _ _ _ _ rfl (set4 (x := .string ⟨#[]⟩) (y := .int .i64 0) (z := .slice none 0 0) (u := .slice none 0 0) (by rw [heap_setCell_other _ _ _ _ (by show w.heap.size + 1 ≠ w.heap.size; omega)]; exact HK.out.2))) rfl ?_
        refine HF.out _ (((((Ko0.set _ (p := ⟨w.heap.size, 3, none⟩) (Nat.le_refl _) _).trans (Ko0.set _ (p := ⟨w.heap.size + 1, 0, none⟩) (Nat.le_succ _) _)).trans (Ko0.set _ (p := ⟨w.heap.size + 1, 1, none⟩) (Nat.le_succ _) _)).trans (Ko0.set _ (p := ⟨w.heap.size + 1, 2, none⟩) (Nat.le_succ _) _)).trans (Ko0.set _ (p := ⟨w.heap.size + 1, 3, none⟩) (Nat.le_succ _) _)) ?_
        have := HSb.out
        rw [heap_setCell_other _ _ _ _ (by show sb ≠ w.heap.size + 1; omega), heap_setCell_other _ _ _ _ (by show sb ≠ w.heap.size + 1; omega), heap_setCell_other _ _ _ _ (by show sb ≠ w.heap.size + 1; omega), heap_setCell_other _ _ _ _ (by show sb ≠ w.heap.size + 1; omega), heap_setCell_other _ _ _ _ (by show sb ≠ w.heap.size; omega)]
      · have d1' := d1 hks
        clear d1 d0
        have hks2 : k < sc := by omega
        go_wp2
        refine bodyPost_ret (res68 _ _ (w.heap.size + 1) _ _ _ _ rfl (set4 (x := .string ⟨#[]⟩) (y := .int .i64 0) (z := .slice none 0 0) (u := .slice none 0 0) (by rw [heap_setCell_other _ _ _ _ (by show w.heap.size + 1 ≠ w.heap.size; omega)]; exact HK.out.2))) rfl ?_
        refine HF.out _ (((((Ko0.set _ (p := ⟨w.heap.size, 3, none⟩) (Nat.le_refl _) _).trans (Ko0.set _ (p := ⟨w.heap.size + 1, 0, none⟩) (Nat.le_succ _) _)).trans (Ko0.set _ (p := ⟨w.heap.size + 1, 1, none⟩) (Nat.le_succ _) _)).trans (Ko0.set _ (p := ⟨w.heap.size + 1, 2, none⟩) (Nat.le_succ _) _)).trans (Ko0.set _ (p := ⟨w.heap.size + 1, 3, none⟩) (Nat.le_succ _) _)) ?_
        have := HSb.out
        rw [heap_setCell_other _ _ _ _ (by show sb ≠ w.heap.size + 1; omega), heap_setCell_other _ _ _ _ (by show sb ≠ w.heap.size + 1; omega), heap_setCell_other _ _ _ _ (by show sb ≠ w.heap.size + 1; omega), heap_setCell_other _ _ _ _ (by show sb ≠ w.heap.size + 1; omega), heap_setCell_other _ _ _ _ (by show sb ≠ w.heap.size; omega)]
end Go.Proofs.YtjmbjpimabnohaaDoor.Mid
