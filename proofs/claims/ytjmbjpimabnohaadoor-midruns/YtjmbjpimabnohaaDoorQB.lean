/- Package mid, walked: labels. -/
import Derived.Test.YtjmbjpimabnohaaDoorQA
namespace Go.Proofs.YtjmbjpimabnohaaDoor.Mid
set_option linter.unusedVariables false
set_option linter.unusedSimpArgs false
open Go Go.RowKit

theorem labOf_snoc (l : List Ms) (s : Ms) (x : Int) : labOf (l ++ [s]) x = (labOf l x).or (if s.code = 6 ∧ s.label = x then some l.length else none) := by
  unfold labOf
  rw [List.findIdx?_append]
  congr 1
  by_cases h : s.code = 6 ∧ s.label = x
  · rw [if_pos h]; simp [h.1, h.2]
  · rw [if_neg h]
    have : (s.code == 6 && s.label == x) = false := by
      rw [Bool.eq_false_iff]
      intro e
      simp at e
      exact h e
    simp [this]
theorem labOf_none {l : List Ms} {x : Int} : labOf l x = none ↔ ∀ s ∈ l, ¬ (s.code = 6 ∧ s.label = x) := by
  unfold labOf
  rw [List.findIdx?_eq_none_iff]
  constructor
  · intro h s hs e
    have := h s hs
    simp [e.1, e.2] at this
  · intro h s hs
    have := h s hs
    rw [Bool.eq_false_iff]
    intro e
    simp at e
    exact this e
theorem labsOk_snoc {l : List Ms} {s : Ms} : labsOk (l ++ [s]) ↔ labsOk l ∧ (s.code = 6 → labOf l s.label = none) := by
  unfold labsOk
  rw [List.filter_append, List.map_append]
  by_cases h : s.code = 6
  · have e : ([s].filter (fun s => s.code == 6)).map (·.label) = [s.label] := by simp [h]
    rw [e, List.nodup_append]
    constructor
    · rintro ⟨h1, _, h3⟩
      refine ⟨h1, fun _ => labOf_none.2 fun t ht e => ?_⟩
      refine h3 t.label (List.mem_map.2 ⟨t, List.mem_filter.2 ⟨ht, by simp [e.1]⟩, rfl⟩) s.label (by simp) e.2
    · rintro ⟨h1, h2⟩
      refine ⟨h1, by simp, fun a ha b hb e => ?_⟩
      obtain ⟨t, ht, rfl⟩ := List.mem_map.1 ha
      have ht := List.mem_filter.1 ht
      simp at hb
      exact labOf_none.1 (h2 h) t ht.1 ⟨by simpa using ht.2, by rw [e, hb]⟩
  · have e : ([s].filter (fun s => s.code == 6)).map (·.label) = [] := by simp [h]
    rw [e, List.append_nil]
    exact ⟨fun a => ⟨a, fun b => absurd b h⟩, fun a => a.1⟩
theorem labsOk_take {l : List Ms} {i : Nat} (h : labsOk l) : labsOk (l.take i) := by
  unfold labsOk at h ⊢
  exact h.sublist (((List.take_sublist i l).filter _).map _)
theorem take_snoc {α : Type} {l : List α} {i : Nat} {s : α} (h : l[i]? = some s) : l.take (i + 1) = l.take i ++ [s] := by
  obtain ⟨h1, rfl⟩ := List.getElem?_eq_some_iff.1 h
  exact (List.take_append_getElem h1).symm
/-- What labels leaves. -/
def LbP (l : List Ms) (w : World) (e : Ending) (w' : World) : Prop :=
  Below w.heap.size w w' ∧ ((labsOk l ∧ e = .returned (.tuple #[.map (some w.heap.size), .bool true]) ∧ ∃ n, n ≤ l.length ∧ Mp 3 w' w.heap.size (labF l) n) ∨ (¬ labsOk l ∧ e = .returned (.tuple #[.map none, .bool false])))
structure LbI (l : List Ms) (w wr : World) (i : Nat) : Prop where
  bel : Below w.heap.size w wr
  mp : ∃ n, n ≤ i ∧ Mp 3 wr w.heap.size (labF (l.take i)) n
  ok : labsOk (l.take i)
theorem lb_put {l : List Ms} {w wr W9 : World} {i : Nat} {s : Ms} (h : LbI l w wr i) (hs : l[i]? = some s) (h6 : s.code = 6) (hn : labOf (l.take i) s.label = none) (hB : Below wr.heap.size wr W9) (hI : I64 s.label) (hi : i ≤ 1000000) :
    ∃ w9, (Instr.mapUpdate 69 (.map (some w.heap.size)) (.int .i64 s.label) (.int .i64 (i : Int))).run Tryd.prog W9 = .ok () w9 ∧ LbI l w w9 (i + 1) ∧ W9.grownBy w9 (some w.heap.size) := by
  obtain ⟨n, hn1, hm⟩ := h.mp
  have hlt := hm.lt
  have hlen : (l.take i).length = i := by have := (List.getElem?_eq_some_iff.1 hs).1; simp; omega
  obtain ⟨w9, h1, h2, h3⟩ := (hm.kept (hB.block _ hlt)).put kdI und69 (by omega) (key_i _ hI) trivial (.int .i64 (i : Int)) (g := labF (l.take (i + 1))) (by
      show (labOf (l.take (i + 1)) s.label).map _ = _
      rw [take_snoc hs, labOf_snoc, hn, if_pos ⟨h6, rfl⟩, hlen]
      rfl) (fun y hy => by
      cases y with
      | int k x =>
        cases k <;> try rfl
        show (labOf (l.take (i + 1)) x).map _ = (labOf (l.take i) x).map _
        rw [take_snoc hs, labOf_snoc, if_neg (fun e => hy (by rw [e.2])), Option.or_none]
      | _ => rfl)
  refine ⟨w9, h1, ⟨?_, ⟨_, ?_, h2⟩, ?_⟩, h3⟩
  · exact (h.bel.trans (hB.mono h.bel.size)).grown h3 (Nat.le_trans h.bel.size hB.size) (fun k e => by injection e with e; omega)
  · split <;> omega
  · rw [take_snoc hs]
    exact labsOk_snoc.2 ⟨h.ok, fun _ => hn⟩
theorem lb_skip {l : List Ms} {w wr W9 : World} {i : Nat} {s : Ms} (h : LbI l w wr i) (hs : l[i]? = some s) (h6 : s.code ≠ 6) (hB : Below wr.heap.size wr W9) : LbI l w W9 (i + 1) := by
  obtain ⟨n, hn1, hm⟩ := h.mp
  have e : labF (l.take (i + 1)) = labF (l.take i) := by
    funext y
    cases y with
    | int k x =>
      cases k <;> try rfl
      show (labOf (l.take (i + 1)) x).map _ = (labOf (l.take i) x).map _
      rw [take_snoc hs, labOf_snoc, if_neg (fun e => h6 e.1), Option.or_none]
    | _ => rfl
  refine ⟨h.bel.trans (hB.mono h.bel.size), ⟨n, by omega, ?_⟩, ?_⟩
  · rw [e]; exact hm.kept (hB.block _ hm.lt)
  · rw [take_snoc hs]
    exact labsOk_snoc.2 ⟨h.ok, fun e => absurd e h6⟩
theorem al_bel2 (w : World) (A : Obj) : Below w.heap.size w (w.alloc A) := (Below.refl _ _).alloc (Nat.le_refl _) _
set_option maxRecDepth 100000 in
set_option maxHeartbeats 4000000 in
theorem labels_any (w : World) (fb fo : Nat) (F : Mf) (h : FnAt w fb fo F) : Calls Tryd.prog 36 #[.pointer (some ⟨fb, fo, none⟩)] w (LbP F.steps w) := by
  obtain ⟨q, c, h3, hc, hst⟩ := h.c3
  have HSt : Hid (F.steps = [] ∨ ∃ g p, q = some ⟨g, p, none⟩ ∧ ∀ j s, F.steps[j]? = some s → StepAt w g (p + j * 10) s) := hst
  obtain ⟨n, hn⟩ : ∃ n, n = F.steps.length := ⟨_, rfl⟩
  have HN : Hid (n = F.steps.length) := hn
  have hn6 : n ≤ 1000000 := by rw [hn]; exact h.i2.2.2
  rw [← hn] at h3 hc
  have hmm : ∀ W : World, (Instr.makeMap 69 none).run Tryd.prog W = .ok (.map (some W.heap.size)) (W.alloc (.map #[] 0)) := fun W => by simp [Instr.makeMap, go_sem]
  have h3' := cell_old (A := .map #[] 0) h3
  generalize hG : LbP F.steps w = G
  have HG : Hid (LbP F.steps w = G) := hG
  have HS0 : Hid (LbI F.steps w (w.alloc (.map #[] 0)) 0) := ⟨al_bel2 _ _, ⟨0, Nat.le_refl _, by
    have e : labF (F.steps.take 0) = fun _ => none := by
      funext y
      cases y with
      | int k x => cases k <;> rfl
      | _ => rfl
    rw [e]; exact Mp.made 3 w⟩, by simp [labsOk]⟩
  clear hG hst h hn h3
  go_enter Tryd.func36, Tryd.ntmps36
  go_wp2_with fail
  obtain ⟨W4, hW4⟩ : ∃ W4, W4 = w.alloc (.map #[] 0) := ⟨_, rfl⟩
  rw [← hW4] at HS0 ⊢
  clear hW4 h3'
  go_loopw [2, 14] (fun v2 v wr => ∃ i : Nat, i ≤ n ∧ v2 = .map (some w.heap.size) ∧ v = .int .i64 i ∧ Hid (LbI F.steps w wr i)) (fun _ v _ => n - (intOf v).toNat)
  case atStart => exact ⟨0, Nat.zero_le _, rfl, rfl, HS0⟩
  case round =>
    obtain ⟨i, hin, rfl, rfl, HI⟩ := hrel
    by_cases hlt2 : i < n
    · obtain ⟨s, hs⟩ : ∃ s, F.steps[i]? = some s := ⟨F.steps[i]'(by rw [← HN.out]; exact hlt2), List.getElem?_eq_getElem _⟩
      obtain ⟨gs, ps, rfl, hsts⟩ : ∃ g p, q = some ⟨g, p, none⟩ ∧ ∀ j s, F.steps[j]? = some s → StepAt w g (p + j * 10) s := by
        rcases HSt.out with h | h
        · rw [h] at hs; simp at hs
        · exact h
      have HSA : Hid (StepAt w gs (ps + i * 10) s) := hsts i s hs
      have kp : ∀ (o : Nat) (v : Value), w.cell? ⟨gs, o, none⟩ = some v → wr.cell? ⟨gs, o, none⟩ = some v := fun o v hv => by
        rw [HI.out.bel.cell (p := ⟨gs, o, none⟩) (cell_lt hv)]; exact hv
      have d0 := kp _ _ HSA.out.c0
      have d1 := kp _ _ HSA.out.c1
      have d2 := kp _ _ HSA.out.c2
      have d3 := kp _ _ HSA.out.c3
      have d4 := kp _ _ HSA.out.c4
      have d5 := kp _ _ HSA.out.c5
      have d6 := kp _ _ HSA.out.c6
      have d7 := kp _ _ HSA.out.c7
      have d8 := kp _ _ HSA.out.c8
      obtain ⟨va, hva, pa, ca, rfl, _⟩ := HSA.out.c9
      have d9 := kp _ _ hva
      obtain ⟨na, hna⟩ : ∃ na, na = s.args.length := ⟨_, rfl⟩
      rw [← hna] at d9
      obtain ⟨y6, hy6⟩ : ∃ y6 : ByteArray, y6 = ⟨s.op.toArray⟩ := ⟨_, rfl⟩
      obtain ⟨y8, hy8⟩ : ∃ y8 : ByteArray, y8 = ⟨s.name.toArray⟩ := ⟨_, rfl⟩
      rw [← hy6] at d6
      rw [← hy8] at d8
      have HQ : Hid (F.steps[i]? = some s) := hs
      clear kp hs hsts hva hna hy6 hy8
      have hl9 : (i : Int) < (n : Int) := by omega
      obtain ⟨cd, hcd⟩ : ∃ cd, s.code = cd := ⟨_, rfl⟩
      obtain ⟨lb, hlb⟩ : ∃ lb, s.label = lb := ⟨_, rfl⟩
      have HC : Hid (s.code = cd ∧ s.label = lb) := ⟨hcd, hlb⟩
      rw [hcd] at d0
      rw [hlb] at d7
      obtain ⟨W7, hW7⟩ : ∃ W7, W7 = wr.alloc (.cells #[.int .i64 cd, .int .i64 s.dst, .int .i64 s.a, .int .i64 s.b, .int .i64 s.c, .int .i64 s.n, .string y6, .int .i64 lb, .string y8, .slice pa na ca] 44) := ⟨_, rfl⟩
      have HB7 : Hid (Below wr.heap.size wr W7) := by rw [hW7]; exact al_bel2 _ _
      by_cases h6 : cd = 6
      · subst h6
        cases hlk : labOf (F.steps.take i) lb with
        | none =>
          obtain ⟨w9, q1, q2, q3⟩ := lb_put HI.out HQ.out hcd (by rw [hlb]; exact hlk) HB7.out HSA.out.i1.2.2.2.2.2.2 (by omega)
          rw [hlb] at q1
          obtain ⟨m, _, hm⟩ := HI.out.mp
          have lk := (hm.kept (HB7.out.block _ hm.lt)).look2 kdI und69 (zero3 W7) (key_i lb (by rw [← hlb]; exact HSA.out.i1.2.2.2.2.2.2))
          have e1 : labF (F.steps.take i) (.int .i64 lb) = none := by show (labOf (F.steps.take i) lb).map _ = none; rw [hlk]; rfl
          rw [e1] at lk
          have lk' : (Instr.lookup 69 (.map (some w.heap.size)) (.int .i64 lb) true).run Tryd.prog W7 = .ok (.tuple #[.int .i64 0, .bool false]) W7 := lk
          rw [hW7] at q1 lk'
          have HL9 : Hid (LbI F.steps w w9 (i + 1)) := q2
          clear hm lk e1 hlk hcd hlb q2 q3 hW7 HB7
          go_wp2
          exact ⟨⟨i + 1, by omega, rfl, by go_num, HL9⟩, by simp [intOf]; omega⟩
        | some k =>
          obtain ⟨m, _, hm⟩ := HI.out.mp
          have lk := (hm.kept (HB7.out.block _ hm.lt)).look2 kdI und69 (zero3 W7) (key_i lb (by rw [← hlb]; exact HSA.out.i1.2.2.2.2.2.2))
          have e1 : labF (F.steps.take i) (.int .i64 lb) = some (.int .i64 (k : Int)) := by show (labOf (F.steps.take i) lb).map _ = _; rw [hlk]; rfl
          rw [e1] at lk
          have lk' : (Instr.lookup 69 (.map (some w.heap.size)) (.int .i64 lb) true).run Tryd.prog W7 = .ok (.tuple #[.int .i64 (k : Int), .bool true]) W7 := lk
          rw [hW7] at lk'
          have HE : Hid (G (.returned (.tuple #[.map none, .bool false])) (wr.alloc (.cells #[.int .i64 6, .int .i64 s.dst, .int .i64 s.a, .int .i64 s.b, .int .i64 s.c, .int .i64 s.n, .string y6, .int .i64 lb, .string y8, .slice pa na ca] 44))) := by
            show G _ _
            rw [← HG.out, ← hW7]
            refine ⟨HI.out.bel.trans (HB7.out.mono HI.out.bel.size), .inr ⟨fun hok => ?_, rfl⟩⟩
            have := labsOk_take (i := i + 1) hok
            rw [take_snoc HQ.out] at this
            have := (labsOk_snoc.1 this).2 hcd
            rw [hlb, hlk] at this
            cases this
          clear hm lk e1 hlk hcd hlb hW7 HB7
          go_wp2
          exact HE.out
      · have t6 : (cd == 6) = false := by simpa using h6
        have HL9 : Hid (LbI F.steps w W7 (i + 1)) := lb_skip HI.out HQ.out (by rw [hcd]; exact h6) HB7.out
        rw [hW7] at HL9
        clear hcd hlb hW7 HB7
        go_wp2
        exact ⟨⟨i + 1, by omega, rfl, by go_num, HL9⟩, by simp [intOf]; omega⟩
    · have hin2 : i = n := by omega
      subst hin2
      have HE : Hid (G (.returned (.tuple #[.map (some w.heap.size), .bool true])) wr) := by
        show G _ _
        rw [← HG.out]
        have e : F.steps.take i = F.steps := by rw [HN.out, List.take_length]
        obtain ⟨m, hm1, hm2⟩ := HI.out.mp
        have hok := HI.out.ok
        rw [e] at hm2 hok
        exact ⟨HI.out.bel, .inl ⟨hok, rfl, m, by rw [← HN.out]; exact hm1, hm2⟩⟩
      go_wp2
      exact HE.out
end Go.Proofs.YtjmbjpimabnohaaDoor.Mid
