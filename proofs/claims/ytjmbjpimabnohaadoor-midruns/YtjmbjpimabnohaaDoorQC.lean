/- Package mid, walked: byName. -/
import Derived.Test.YtjmbjpimabnohaaDoorQB
import Derived.Deep.RegionHeld3
namespace Go.Proofs.YtjmbjpimabnohaaDoor.Mid
set_option linter.unusedVariables false
set_option linter.unusedSimpArgs false
open Go Go.RowKit

/-- Steps in memory: functions in a row. -/
structure CodeAt (w : World) (cb : Nat) (q : Option Addr) (c : Nat) (L : List Mf) : Prop where
  c0 : w.cell? ⟨cb, 0, none⟩ = some (.slice q L.length c)
  le : L.length ≤ c ∧ L.length ≤ 1000000
  fn : L = [] ∨ ∃ g p, q = some ⟨g, p, none⟩ ∧ ∀ j F, L[j]? = some F → FnAt w g (p + j * 4) F
theorem IntsAt.below {w w' : World} {v : Value} {l : List Int} (h : IntsAt w v l) (hb : Below w.heap.size w w') : IntsAt w' v l := by
  obtain ⟨q, c, h1, h2, h3, h4⟩ := h
  refine ⟨q, c, h1, h2, h3, ?_⟩
  rcases h4 with h | ⟨g, o, e, h⟩
  · exact .inl h
  · exact .inr ⟨g, o, e, fun j x hx => by rw [hb.cell (p := ⟨g, o + j, none⟩) (cell_lt (h j x hx))]; exact h j x hx⟩
theorem StepAt.below {w w' : World} {b o : Nat} {s : Ms} (h : StepAt w b o s) (hb : Below w.heap.size w w') : StepAt w' b o s := by
  have kp : ∀ (o : Nat) (v : Value), w.cell? ⟨b, o, none⟩ = some v → w'.cell? ⟨b, o, none⟩ = some v := fun o v hv => by rw [hb.cell (p := ⟨b, o, none⟩) (cell_lt hv)]; exact hv
  obtain ⟨v, h9, h10⟩ := h.c9
  exact ⟨kp _ _ h.c0, kp _ _ h.c1, kp _ _ h.c2, kp _ _ h.c3, kp _ _ h.c4, kp _ _ h.c5, kp _ _ h.c6, kp _ _ h.c7, kp _ _ h.c8, ⟨v, kp _ _ h9, h10.below hb⟩, h.i1, h.i2⟩
theorem FnAt.below {w w' : World} {b o : Nat} {f : Mf} (h : FnAt w b o f) (hb : Below w.heap.size w w') : FnAt w' b o f := by
  have kp : ∀ (o : Nat) (v : Value), w.cell? ⟨b, o, none⟩ = some v → w'.cell? ⟨b, o, none⟩ = some v := fun o v hv => by rw [hb.cell (p := ⟨b, o, none⟩) (cell_lt hv)]; exact hv
  obtain ⟨v, h2, h2'⟩ := h.c2
  obtain ⟨q, c, h3, h3', h3''⟩ := h.c3
  refine ⟨kp _ _ h.c0, kp _ _ h.c1, ⟨v, kp _ _ h2, h2'.below hb⟩, ⟨q, c, kp _ _ h3, h3', ?_⟩, h.i1, h.i2⟩
  rcases h3'' with h | ⟨g, p, e, h⟩
  · exact .inl h
  · exact .inr ⟨g, p, e, fun j s hs => (h j s hs).below hb⟩
theorem CodeAt.below {w w' : World} {cb : Nat} {q : Option Addr} {c : Nat} {L : List Mf} (h : CodeAt w cb q c L) (hb : Below w.heap.size w w') : CodeAt w' cb q c L := by
  refine ⟨by rw [hb.cell (p := ⟨cb, 0, none⟩) (cell_lt h.c0)]; exact h.c0, h.le, ?_⟩
  rcases h.fn with h | ⟨g, p, e, h⟩
  · exact .inl h
  · exact .inr ⟨g, p, e, fun j s hs => (h j s hs).below hb⟩
/-- Where each name leads, as far as the first functions go; how many names there are. -/
structure ByI (L : List Mf) (q : Option Addr) (i : Nat) (f : Lit → Option Value) (n : Nat) : Prop where
  no : ∀ nm, f (.string nm) = none → ∀ (j : Nat) (F : Mf), j < i → L[j]? = some F → F.name ≠ nm
  yes : ∀ nm v, f (.string nm) = some v → ∃ (g p j : Nat) (F : Mf), q = some ⟨g, p, none⟩ ∧ j < i ∧ L[j]? = some F ∧ F.name = nm ∧ v = .pointer (some ⟨g, p + j * 4, none⟩)
  le : n ≤ i
  eq : n = i ↔ ((L.take i).map (·.name)).Nodup
/-- What byName leaves. -/
def ByP (L : List Mf) (q : Option Addr) (w : World) (e : Ending) (w' : World) : Prop :=
  ∃ f n, e = .returned (.map (some w.heap.size)) ∧ Below w.heap.size w w' ∧ Mp 9 w' w.heap.size f n ∧ ByI L q L.length f n
structure ByJ (L : List Mf) (q : Option Addr) (w wr : World) (i : Nat) : Prop where
  bel : Below w.heap.size w wr
  at' : ∃ f n, Mp 9 wr w.heap.size f n ∧ ByI L q i f n
theorem by_put {L : List Mf} {g p : Nat} {w wr W9 : World} {i : Nat} {F : Mf} (h : ByJ L (some ⟨g, p, none⟩) w wr i) (hs : L[i]? = some F) (hB : Below wr.heap.size wr W9) (hl : F.name.length ≤ 9223372036854775807) (hi : i ≤ 1000000) :
    ∃ w9, (Instr.mapUpdate 62 (.map (some w.heap.size)) (.string ⟨F.name.toArray⟩) (.pointer (some ⟨g, p + i * 4, none⟩))).run Tryd.prog W9 = .ok () w9 ∧ ByJ L (some ⟨g, p, none⟩) w w9 (i + 1) ∧ W9.grownBy w9 (some w.heap.size) := by
  obtain ⟨f, n, hm, hf⟩ := h.at'
  have hlt := hm.lt
  have hle := hf.le
  have hk : keyOf Tryd.prog 9 (.string ⟨F.name.toArray⟩) = some (.string F.name) := by
    have := key_s ⟨F.name.toArray⟩ (by simpa [ByteArray.size] using hl)
    simpa using this
  let g2 : Lit → Option Value := fun y => match y with
    | .string nm => if nm = F.name then some (.pointer (some ⟨g, p + i * 4, none⟩)) else f (.string nm)
    | y => f y
  obtain ⟨w9, h1, h2, h3⟩ := (hm.kept (hB.block _ hlt)).put kdS und62 (by omega) hk trivial (.pointer (some ⟨g, p + i * 4, none⟩)) (g := g2) (by simp [g2]) (fun y hy => by
      cases y with
      | string nm =>
        have : nm ≠ F.name := fun e => hy (by rw [e])
        simp [g2, this]
      | _ => rfl)
  refine ⟨w9, h1, ⟨?_, g2, _, h2, ⟨fun nm hn j G hj hG => ?_, fun nm v hv => ?_, ?_, ?_⟩⟩, h3⟩
  · exact (h.bel.trans (hB.mono h.bel.size)).grown h3 (Nat.le_trans h.bel.size hB.size) (fun k e => by injection e with e; omega)
  · by_cases e : nm = F.name
    · simp [g2, e] at hn
    · simp only [g2, if_neg e] at hn
      by_cases hji : j = i
      · subst hji
        rw [hs] at hG
        injection hG with hG
        subst hG
        exact fun e' => e e'.symm
      · exact hf.no nm hn j G (by omega) hG
  · by_cases e : nm = F.name
    · simp only [g2, if_pos e, Option.some.injEq] at hv
      exact ⟨g, p, i, F, rfl, by omega, hs, e.symm, hv.symm⟩
    · simp only [g2, if_neg e] at hv
      obtain ⟨a1, a2, j, G, a3, a4, a5, a6, a7⟩ := hf.yes nm v hv
      exact ⟨a1, a2, j, G, a3, by omega, a5, a6, a7⟩
  · split <;> omega
  · rw [take_snoc hs, List.map_append, List.nodup_append, ← hf.eq]
    cases hfn : f (.string F.name) with
    | none =>
      simp only [Option.isSome_none, Bool.false_eq_true, if_false]
      constructor
      · intro e
        refine ⟨by omega, by simp, fun a ha b hb e' => ?_⟩
        simp at hb
        obtain ⟨G, hG, rfl⟩ := List.mem_map.1 ha
        obtain ⟨j, hj⟩ := List.getElem?_of_mem hG
        rw [List.getElem?_take] at hj
        split at hj
        · rename_i hji
          exact hf.no _ hfn j G hji hj (by rw [e', hb])
        · cases hj
      · intro e
        omega
    | some v =>
      simp only [Option.isSome_some, if_true]
      constructor
      · intro e; omega
      · rintro ⟨e1, _, e3⟩
        obtain ⟨a1, a2, j, G, a3, a4, a5, a6, a7⟩ := hf.yes _ v hfn
        exact absurd a6 (e3 G.name (List.mem_map.2 ⟨G, List.mem_of_getElem? (i := j) (by rw [List.getElem?_take, if_pos a4]; exact a5), rfl⟩) F.name (by simp))
theorem und62' : Tryd.prog.underlying 62 = some (.map 9 64) := Tryd.underlying62
set_option maxRecDepth 100000 in
set_option maxHeartbeats 4000000 in
theorem byName_any (w : World) (cb : Nat) (q : Option Addr) (c : Nat) (L : List Mf) (h : CodeAt w cb q c L) : Calls Tryd.prog 22 #[ptr cb] w (ByP L q w) := by
  have h0 := h.c0
  have HA : Hid (CodeAt w cb q c L) := h
  obtain ⟨n, hn⟩ : ∃ n, n = L.length := ⟨_, rfl⟩
  have HN : Hid (n = L.length) := hn
  have hn6 : n ≤ 1000000 := by rw [hn]; exact h.le.2
  rw [← hn] at h0
  have hmm : ∀ W : World, (Instr.makeMap 62 (some (.int .i64 (n : Int)))).run Tryd.prog W = .ok (.map (some W.heap.size)) (W.alloc (.map #[] 0)) := fun W => by simp [Instr.makeMap, go_sem]
  have h0' := cell_old (A := .map #[] 0) h0
  generalize hG : ByP L q w = G
  have HG : Hid (ByP L q w = G) := hG
  have HS0 : Hid (ByJ L q w (w.alloc (.map #[] 0)) 0) := ⟨al_bel2 _ _, fun _ => none, 0, Mp.made 9 w, fun nm _ j F hj => by omega, fun nm v hv => (by cases hv), Nat.le_refl _, by simp⟩
  clear hG h hn
  go_enter Tryd.func22, Tryd.ntmps22
  go_wp2_with fail
  obtain ⟨W4, hW4⟩ : ∃ W4, W4 = w.alloc (.map #[] 0) := ⟨_, rfl⟩
  rw [← hW4] at HS0 ⊢
  clear hW4 h0' h0
  go_loopw [16] (fun v wr => ∃ i : Nat, i ≤ n ∧ v = .int .i64 i ∧ Hid (ByJ L q w wr i)) (fun v _ => n - (intOf v).toNat)
  case atStart => exact ⟨0, Nat.zero_le _, rfl, HS0⟩
  case round =>
    obtain ⟨i, hin, rfl, HI⟩ := hrel
    by_cases hlt2 : i < n
    · obtain ⟨F, hF⟩ : ∃ F, L[i]? = some F := ⟨L[i]'(by rw [← HN.out]; exact hlt2), List.getElem?_eq_getElem _⟩
      obtain ⟨g, p, rfl, hfn⟩ : ∃ g p, q = some ⟨g, p, none⟩ ∧ ∀ j F, L[j]? = some F → FnAt w g (p + j * 4) F := by
        rcases HA.out.fn with h | h
        · rw [h] at hF; simp at hF
        · exact h
      have hFA := hfn i F hF
      have k0 : wr.cell? ⟨cb, 0, none⟩ = some (.slice (some ⟨g, p, none⟩) n c) := by rw [HI.out.bel.cell (p := ⟨cb, 0, none⟩) (cell_lt HA.out.c0), HN.out]; exact HA.out.c0
      have k1 : wr.cell? ⟨g, p + i * 4, none⟩ = some (.string ⟨F.name.toArray⟩) := by rw [HI.out.bel.cell (p := ⟨g, p + i * 4, none⟩) (cell_lt hFA.c0)]; exact hFA.c0
      obtain ⟨w9, q1, q2, q3⟩ := by_put HI.out hF (Below.refl wr.heap.size wr).drew hFA.i2.1 (by omega)
      have s0 : w9.cell? ⟨cb, 0, none⟩ = some (.slice (some ⟨g, p, none⟩) n c) := by rw [q2.bel.cell (p := ⟨cb, 0, none⟩) (cell_lt HA.out.c0), HN.out]; exact HA.out.c0
      have s1 : w9.cell? ⟨g, p + i * 4, none⟩ = some (.string ⟨F.name.toArray⟩) := by rw [q2.bel.cell (p := ⟨g, p + i * 4, none⟩) (cell_lt hFA.c0)]; exact hFA.c0
      have HL9 : Hid (ByJ L (some ⟨g, p, none⟩) w w9 (i + 1)) := q2
      obtain ⟨y, hy⟩ : ∃ y : ByteArray, y = ⟨F.name.toArray⟩ := ⟨_, rfl⟩
      rw [← hy] at k1 s1 q1
      have hl9 : (i : Int) < (n : Int) := by omega
      have hnc : n ≤ c := by have := HA.out.le.1; have := HN.out; omega
      clear hF hfn hFA q2 q3 hy
      go_wp2_with fail
      go_region_held3 (fun w' => w'.cell? ⟨cb, 0, none⟩ = some (.slice (some ⟨g, p, none⟩) n c) ∧ w'.cell? ⟨g, p + i * 4, none⟩ = some (.string y))
        (first | (go_keep; done) | ((try dsimp only); refine ⟨?_, ?_⟩ <;> first | (go_keep; done) | (go_simp; done) | (simp [*]; done) | assumption))
        (fail)
      go_wp2
      exact ⟨⟨i + 1, by omega, by go_num, HL9⟩, by simp [intOf]; omega⟩
    · have hin2 : i = n := by omega
      subst hin2
      have HE : Hid (G (.returned (.map (some w.heap.size))) wr) := by
        show G _ _
        rw [← HG.out]
        obtain ⟨f, m, hm1, hm2⟩ := HI.out.at'
        rw [HN.out] at hm2
        exact ⟨f, m, rfl, HI.out.bel, hm1, hm2⟩
      go_wp2
      exact HE.out
end Go.Proofs.YtjmbjpimabnohaaDoor.Mid
