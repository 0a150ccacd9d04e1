/- QC PB PK QD QE QF -/
import Derived.Test.YtnfhpdbbfejioaaGreatDoorE32
namespace Go.Proofs.YtnfhpdbbfejioaaGreatDoor.Mid
set_option linter.unusedVariables false
set_option linter.unusedSimpArgs false
set_option maxRecDepth 100000
set_option maxHeartbeats 16000000
open Go Go.RowKit
structure CodeAt (w : World) (cb : Nat) (q : Option Addr) (c : Nat) (L : List Mf) : Prop where
  c0 : w.cell? ⟨cb, 0, none⟩ = some (.slice q L.length c)
  le : L.length ≤ c ∧ L.length ≤ 1000000
  fn : L = [] ∨ ∃ g p, q = some ⟨g, p, none⟩ ∧ ∀ j F, L[j]? = some F → FnAt w g (p + j * 4) F
theorem IntsAt.below {w w' : World} {v : Value} {l : List Int} (h : IntsAt w v l) (hb : Below w.heap.size w w') : IntsAt w' v l := by
  obtain ⟨q, c, h1, h2, h3, h4⟩ := h
  refine ⟨q, c, h1, h2, h3, ?_⟩
  rcases h4 with h | ⟨g, o, e, h⟩
  · exact .inl h
  · exact .inr ⟨g, o, e, fun j x hx => by rw [hb.cell (p := ⟨g, o + j, none⟩) (zz (h j x hx))]; exact h j x hx⟩
theorem StepAt.below {w w' : World} {b o : Nat} {s : Ms} (h : StepAt w b o s) (hb : Below w.heap.size w w') : StepAt w' b o s := by
  have kp : ∀ (o : Nat) (v : Value), w.cell? ⟨b, o, none⟩ = some v → w'.cell? ⟨b, o, none⟩ = some v := fun o v hv => by rw [hb.cell (p := ⟨b, o, none⟩) (zz hv)]; exact hv
  obtain ⟨v, h9, h10⟩ := h.c9
  exact ⟨kp _ _ h.c0, kp _ _ h.c1, kp _ _ h.c2, kp _ _ h.c3, kp _ _ h.c4, kp _ _ h.c5, kp _ _ h.c6, kp _ _ h.c7, kp _ _ h.c8, ⟨v, kp _ _ h9, h10.below hb⟩, h.i1, h.i2⟩
theorem FnAt.below {w w' : World} {b o : Nat} {f : Mf} (h : FnAt w b o f) (hb : Below w.heap.size w w') : FnAt w' b o f := by
  have kp : ∀ (o : Nat) (v : Value), w.cell? ⟨b, o, none⟩ = some v → w'.cell? ⟨b, o, none⟩ = some v := fun o v hv => by rw [hb.cell (p := ⟨b, o, none⟩) (zz hv)]; exact hv
  obtain ⟨v, h2, h2'⟩ := h.c2
  obtain ⟨q, c, h3, h3', h3''⟩ := h.c3
  refine ⟨kp _ _ h.c0, kp _ _ h.c1, ⟨v, kp _ _ h2, h2'.below hb⟩, ⟨q, c, kp _ _ h3, h3', ?_⟩, h.i1, h.i2⟩
  rcases h3'' with h | ⟨g, p, e, h⟩
  · exact .inl h
  · exact .inr ⟨g, p, e, fun j s hs => (h j s hs).below hb⟩
theorem CodeAt.below {w w' : World} {cb : Nat} {q : Option Addr} {c : Nat} {L : List Mf} (h : CodeAt w cb q c L) (hb : Below w.heap.size w w') : CodeAt w' cb q c L := by
  refine ⟨by rw [hb.cell (p := ⟨cb, 0, none⟩) (zz h.c0)]; exact h.c0, h.le, ?_⟩
  rcases h.fn with h | ⟨g, p, e, h⟩
  · exact .inl h
  · exact .inr ⟨g, p, e, fun j s hs => (h j s hs).below hb⟩
structure ByI (L : List Mf) (q : Option Addr) (i : Nat) (f : Lit → Option Value) (n : Nat) : Prop where
  no : ∀ nm, f (.string nm) = none → ∀ (j : Nat) (F : Mf), j < i → L[j]? = some F → F.name ≠ nm
  yes : ∀ nm v, f (.string nm) = some v → ∃ (g p j : Nat) (F : Mf), q = some ⟨g, p, none⟩ ∧ j < i ∧ L[j]? = some F ∧ F.name = nm ∧ v = .pointer (some ⟨g, p + j * 4, none⟩)
  le : n ≤ i
  eq : n = i ↔ ((L.take i).map (·.name)).Nodup
def ByP (L : List Mf) (q : Option Addr) (w : World) (e : Ending) (w' : World) : Prop :=
  ∃ f n, e = .returned (.map (some w.heap.size)) ∧ Below w.heap.size w w' ∧ Mp 9 w' w.heap.size f n ∧ ByI L q L.length f n
structure ByJ (L : List Mf) (q : Option Addr) (w wr : World) (i : Nat) : Prop where
  bel : Below w.heap.size w wr
  at' : ∃ f n, Mp 9 wr w.heap.size f n ∧ ByI L q i f n
theorem by_put {L : List Mf} {g p : Nat} {w wr W9 : World} {i : Nat} {F : Mf} (h : ByJ L (some ⟨g, p, none⟩) w wr i) (hs : L[i]? = some F) (hB : Below wr.heap.size wr W9) (hl : F.name.length ≤ 9223372036854775807) (hi : i ≤ 1000000) :
    ∃ w9, (Instr.mapUpdate 107 (.map (some w.heap.size)) (.string ⟨F.name.toArray⟩) (.pointer (some ⟨g, p + i * 4, none⟩))).run Tryz.prog W9 = .ok () w9 ∧ ByJ L (some ⟨g, p, none⟩) w w9 (i + 1) ∧ W9.grownBy w9 (some w.heap.size) := by
  obtain ⟨f, n, hm, hf⟩ := h.at'
  have hlt := hm.lt
  have hle := hf.le
  have hk : keyOf Tryz.prog 9 (.string ⟨F.name.toArray⟩) = some (.string F.name) := by
    have := key_s ⟨F.name.toArray⟩ (by simpa [ByteArray.size] using hl)
    simpa using this
  let g2 : Lit → Option Value := fun y => match y with
    | .string nm => if nm = F.name then some (.pointer (some ⟨g, p + i * 4, none⟩)) else f (.string nm)
    | y => f y
  obtain ⟨w9, h1, h2, h3⟩ := (hm.kept (hB.block _ hlt)).put kdS und62 (by omega) hk trivial (.pointer (some ⟨g, p + i * 4, none⟩)) (g := g2) (by simp [g2]) (fun y hy => by
      cases y with
      | string nm =>
        have : nm ≠ F.name := fun e => hy (by rw [e])
        simp [g2, this]
      | _ => rfl)
  refine ⟨w9, h1, ⟨?_, g2, _, h2, ⟨fun nm hn j G hj hG => ?_, fun nm v hv => ?_, ?_, ?_⟩⟩, h3⟩
  · exact (h.bel.trans (hB.mono h.bel.size)).grown h3 (Nat.le_trans h.bel.size hB.size) (fun k e => by injection e with e; omega)
  · by_cases e : nm = F.name
    · simp [g2, e] at hn
    · simp only [g2, if_neg e] at hn
      by_cases hji : j = i
      · subst hji
        rw [hs] at hG
        injection hG with hG
        subst hG
        exact fun e' => e e'.symm
      · exact hf.no nm hn j G (by omega) hG
  · by_cases e : nm = F.name
    · simp only [g2, if_pos e, Option.some.injEq] at hv
      exact ⟨g, p, i, F, rfl, by omega, hs, e.symm, hv.symm⟩
    · simp only [g2, if_neg e] at hv
      obtain ⟨a1, a2, j, G, a3, a4, a5, a6, a7⟩ := hf.yes nm v hv
      exact ⟨a1, a2, j, G, a3, by omega, a5, a6, a7⟩
  · split <;> omega
  · rw [zY hs, List.map_append, List.nodup_append, ← hf.eq]
    cases hfn : f (.string F.name) with
    | none =>
      simp only [Option.isSome_none, Bool.false_eq_true, if_false]
      constructor
      · intro e
        refine ⟨by omega, by simp, fun a ha b hb e' => ?_⟩
        simp at hb
        obtain ⟨G, hG, rfl⟩ := List.mem_map.1 ha
        obtain ⟨j, hj⟩ := List.getElem?_of_mem hG
        rw [List.getElem?_take] at hj
        split at hj
        · rename_i hji
          exact hf.no _ hfn j G hji hj (by rw [e', hb])
        · cases hj
      · intro e
        omega
    | some v =>
      simp only [Option.isSome_some, if_true]
      constructor
      · intro e; omega
      · rintro ⟨e1, _, e3⟩
        obtain ⟨a1, a2, j, G, a3, a4, a5, a6, a7⟩ := hf.yes _ v hfn
        exact absurd a6 (e3 G.name (List.mem_map.2 ⟨G, List.mem_of_getElem? (i := j) (by rw [List.getElem?_take, if_pos a4]; exact a5), rfl⟩) F.name (by simp))
theorem byName_any (w : World) (cb : Nat) (q : Option Addr) (c : Nat) (L : List Mf) (h : CodeAt w cb q c L) : Calls Tryz.prog 45 #[ptr cb] w (ByP L q w) := by
  have h0 := h.c0
  have HA : Hid (CodeAt w cb q c L) := h
  obtain ⟨n, hn⟩ : ∃ n, n = L.length := ⟨_, rfl⟩
  have HN : Hid (n = L.length) := hn
  have hn6 : n ≤ 1000000 := by rw [hn]; exact h.le.2
  rw [← hn] at h0
  have hmm : ∀ W : World, (Instr.makeMap 107 (some (.int .i64 (n : Int)))).run Tryz.prog W = .ok (.map (some W.heap.size)) (W.alloc (.map #[] 0)) := fun W => by simp [Instr.makeMap, go_sem]
  have h0' := zk (A := .map #[] 0) h0
  generalize hG : ByP L q w = G
  have HG : Hid (ByP L q w = G) := hG
  have HS0 : Hid (ByJ L q w (w.alloc (.map #[] 0)) 0) := ⟨qC _ _, fun _ => none, 0, Mp.made 9 w, fun nm _ j F hj => by omega, fun nm v hv => (by cases hv), Nat.le_refl _, by simp⟩
  clear hG h hn
  go_enter Tryz.func45, Tryz.ntmps45
  go_wp2_with fail
  obtain ⟨W4, hW4⟩ : ∃ W4, W4 = w.alloc (.map #[] 0) := ⟨_, rfl⟩
  rw [← hW4] at HS0 ⊢
  clear hW4 h0' h0
  go_loopw [16] (fun v wr => ∃ i : Nat, i ≤ n ∧ v = .int .i64 i ∧ Hid (ByJ L q w wr i)) (fun v _ => n - (intOf v).toNat)
  case atStart => exact ⟨0, Nat.zero_le _, rfl, HS0⟩
  case round =>
    obtain ⟨i, hin, rfl, HI⟩ := hrel
    by_cases hlt2 : i < n
    · obtain ⟨F, hF⟩ : ∃ F, L[i]? = some F := ⟨L[i]'(by rw [← HN.out]; exact hlt2), List.getElem?_eq_getElem _⟩
      obtain ⟨g, p, rfl, hfn⟩ : ∃ g p, q = some ⟨g, p, none⟩ ∧ ∀ j F, L[j]? = some F → FnAt w g (p + j * 4) F := by
        rcases HA.out.fn with h | h
        · rw [h] at hF; simp at hF
        · exact h
      have hFA := hfn i F hF
      have k0 : wr.cell? ⟨cb, 0, none⟩ = some (.slice (some ⟨g, p, none⟩) n c) := by rw [HI.out.bel.cell (p := ⟨cb, 0, none⟩) (zz HA.out.c0), HN.out]; exact HA.out.c0
      have k1 : wr.cell? ⟨g, p + i * 4, none⟩ = some (.string ⟨F.name.toArray⟩) := by rw [HI.out.bel.cell (p := ⟨g, p + i * 4, none⟩) (zz hFA.c0)]; exact hFA.c0
      obtain ⟨w9, q1, q2, q3⟩ := by_put HI.out hF (Below.refl wr.heap.size wr).drew hFA.i2.1 (by omega)
      have s0 : w9.cell? ⟨cb, 0, none⟩ = some (.slice (some ⟨g, p, none⟩) n c) := by rw [q2.bel.cell (p := ⟨cb, 0, none⟩) (zz HA.out.c0), HN.out]; exact HA.out.c0
      have s1 : w9.cell? ⟨g, p + i * 4, none⟩ = some (.string ⟨F.name.toArray⟩) := by rw [q2.bel.cell (p := ⟨g, p + i * 4, none⟩) (zz hFA.c0)]; exact hFA.c0
      have HL9 : Hid (ByJ L (some ⟨g, p, none⟩) w w9 (i + 1)) := q2
      obtain ⟨y, hy⟩ : ∃ y : ByteArray, y = ⟨F.name.toArray⟩ := ⟨_, rfl⟩
      rw [← hy] at k1 s1 q1
      have hl9 : (i : Int) < (n : Int) := by omega
      have hnc : n ≤ c := by have := HA.out.le.1; have := HN.out; omega
      clear hF hfn hFA q2 q3 hy
      go_wp2_with fail
      go_region_held3 (fun w' => w'.cell? ⟨cb, 0, none⟩ = some (.slice (some ⟨g, p, none⟩) n c) ∧ w'.cell? ⟨g, p + i * 4, none⟩ = some (.string y))
        (first | (go_keep; done) | ((try dsimp only); refine ⟨?_, ?_⟩ <;> first | (go_keep; done) | (go_simp; done) | (simp [*]; done) | assumption))
        (fail)
      go_wp2
      exact ⟨⟨i + 1, by omega, by go_num, HL9⟩, by simp [intOf]; omega⟩
    · have hin2 : i = n := by omega
      subst hin2
      have HE : Hid (G (.returned (.map (some w.heap.size))) wr) := by
        show G _ _
        rw [← HG.out]
        obtain ⟨f, m, hm1, hm2⟩ := HI.out.at'
        rw [HN.out] at hm2
        exact ⟨f, m, rfl, HI.out.bel, hm1, hm2⟩
      go_wp2
      exact HE.out
def FnV (w : World) (tv sv : Value) (f : Mf) : Prop :=
  IntsAt w tv f.types ∧ (∃ q c, sv = .slice q f.steps.length c ∧ f.steps.length ≤ c ∧ (f.steps = [] ∨ ∃ g p, q = some ⟨g, p, none⟩ ∧ ∀ j s, f.steps[j]? = some s → StepAt w g (p + j * 10) s)) ∧ f.types.length ≤ 1000000 ∧ f.steps.length ≤ 1000000
theorem okI_i {x : Int} (h : okI x = true) : I64 x := by
  unfold okI at h
  simp only [Bool.and_eq_true, decide_eq_true_eq] at h
  exact h
theorem okS_i {s : Ms} (h : okS s = true) : (I64 s.code ∧ I64 s.dst ∧ I64 s.a ∧ I64 s.b ∧ I64 s.c ∧ I64 s.n ∧ I64 s.label) ∧ (s.op.length ≤ 1000 ∧ s.name.length ≤ 1000) ∧ s.args.length ≤ 100000 ∧ ∀ x ∈ s.args, I64 x := by
  unfold okS at h
  simp only [Bool.and_eq_true, decide_eq_true_eq, List.all_eq_true] at h
  obtain ⟨⟨⟨⟨⟨⟨⟨⟨⟨⟨a1, a2⟩, a3⟩, a4⟩, a5⟩, a6⟩, a7⟩, a8⟩, a9⟩, a10⟩, a11⟩ := h
  exact ⟨⟨okI_i a1, okI_i a2, okI_i a3, okI_i a4, okI_i a5, okI_i a6, okI_i a7⟩, ⟨a8, a9⟩, a10, fun x hx => okI_i (a11 x hx)⟩
theorem Wc.fnv {R : Nat → Nat} {w : World} {P mb : Nat} {tv sv v1 v2 : Value} {s : Wr} (h : Wc R w P mb tv sv v1 v2 s) (nm : By) (n : Int) : FnV w tv sv ⟨nm, n, s.ts, s.ss⟩ := by
  refine ⟨?_, ?_, by have := h.ok.ts; show s.ts.length ≤ _; omega, by have := h.ok.ss; show s.ss.length ≤ _; omega⟩
  · obtain ⟨q, c, e⟩ := zd h.t
    refine ⟨q, c, e, by have := h.ok.ts; show s.ts.length ≤ _; omega, fun x hx => okI_i (h.ok.okt x hx), ?_⟩
    by_cases h0 : s.ts = []
    · exact .inl h0
    · have hpos := List.length_pos_iff.2 h0
      obtain ⟨g, cap, e2, -, -⟩ := h.t.form (by omega)
      rw [e] at e2
      injection e2 with e2 e3 e4
      refine .inr ⟨g, 0, e2, fun j x hx => ?_⟩
      have := h.t.cells (g := g) (by rw [e, e2]; rfl) j (.int .i64 x) (by simp [q_, hx])
      rw [add_at0] at this
      rw [Nat.zero_add]
      exact this
  · obtain ⟨avs, a1, a2, a3⟩ := h.st
    rcases a2.2 with ⟨rfl, hn⟩ | ⟨g, cap, cur, rfl, hb, hg, hle, hmx, hsz, htk⟩
    · exact ⟨none, 0, by rw [hn], by show s.ss.length ≤ 0; omega, .inl (List.length_eq_zero_iff.1 hn)⟩
    · refine ⟨some ⟨g, 0, none⟩, cap, rfl, hle, .inr ⟨g, 0, rfl, fun j x hx => ?_⟩⟩
      have hlt := (List.getElem?_eq_some_iff.1 hx).1
      obtain ⟨a, ha⟩ : ∃ a, avs[j]? = some a := ⟨avs[j]'(by rw [a1]; exact hlt), List.getElem?_eq_getElem _⟩
      have hc : ∀ i, i < 10 → ∀ u, (sCv x a)[i]? = some u → w.cell? ⟨g, 0 + j * 10 + i, none⟩ = some u := fun i hi u hu => by
        have := a2.cells (g := g) rfl (j * 10 + i) u (by rw [rowV_get s.ss avs j x a hx ha i hi]; exact hu)
        rw [add_at0] at this
        rw [Nat.zero_add]
        exact this
      obtain ⟨k1, k2, k3, k4⟩ := okS_i (h.ok.oks x (List.mem_of_getElem? hx))
      refine ⟨hc 0 (by omega) _ rfl, hc 1 (by omega) _ rfl, hc 2 (by omega) _ rfl, hc 3 (by omega) _ rfl, hc 4 (by omega) _ rfl, hc 5 (by omega) _ rfl, hc 6 (by omega) _ rfl, hc 7 (by omega) _ rfl, hc 8 (by omega) _ rfl, ⟨a, hc 9 (by omega) _ rfl, ?_⟩, k1, by omega, by omega⟩
      obtain ⟨q, c, e, har⟩ := a3 j x a hx ha
      refine ⟨q, c, e, by omega, k4, ?_⟩
      rcases har with har | ⟨gg, cs, e1, e2, e3, e4⟩
      · exact .inl har
      · refine .inr ⟨gg, 0, e1, fun i y hy => ?_⟩
        rw [Nat.zero_add]
        exact z_ e3 (e4 i y hy)
def rol0 (P : Nat) : Nat → Nat := fun b => if b = P then 6 else if b + 1 = P then 5 else 0
theorem wr_new (w : World) : WrM (rol0 (w.heap.size + 1)) ((w.alloc (.map #[] 0)).alloc (.cells #[.slice none 0 0, .slice none 0 0, .map (some w.heap.size), .slice none 0 0, .slice none 0 0, .slice none 0 0, .int .i64 0, .int .i64 0, .int .i64 0, .int .i64 (-1), .int .i64 0] 159)) (w.heap.size + 1) w.heap.size wr0 := by
  have hz : (w.alloc (.map #[] 0)).heap.size = w.heap.size + 1 := by simp
  refine ⟨.slice none 0 0, .slice none 0 0, .slice none 0 0, .slice none 0 0, ?_, World.ownsRow_nil _ _ _ _, ⟨[], rfl, World.ownsRow_nil _ _ _ _, fun j x a hx => (by cases hx)⟩, World.ownsRow_nil _ _ _ _, World.ownsRow_nil _ _ _ _, ⟨0, ?_, Nat.le_refl _⟩, if_pos rfl, fun i hi => (by cases hi), fun i hi => (by cases hi), fun i hi => (by cases hi), fun i hi => (by cases hi), ?_, fun b hb => ?_, ?_⟩
  · have := heap_alloc_last (w.alloc (.map #[] 0)) (.cells #[.slice none 0 0, .slice none 0 0, .map (some w.heap.size), .slice none 0 0, .slice none 0 0, .slice none 0 0, .int .i64 0, .int .i64 0, .int .i64 0, .int .i64 (-1), .int .i64 0] 159)
    rw [hz] at this
    exact this
  · have h0 : ((w.alloc (.map #[] 0)).alloc (.cells #[.slice none 0 0, .slice none 0 0, .map (some w.heap.size), .slice none 0 0, .slice none 0 0, .slice none 0 0, .int .i64 0, .int .i64 0, .int .i64 0, .int .i64 (-1), .int .i64 0] 159)).heap[w.heap.size]? = (w.alloc (.map #[] 0)).heap[w.heap.size]? := zc (by rw [hz]; omega)
    obtain ⟨D, d1, d2, d3⟩ := (Mp.made 9 w).kept h0
    exact ⟨D, d1, d2, fun kl => by
      have := d3 kl
      cases kl <;> exact this⟩
  · unfold rol0; rw [if_neg (by omega), if_pos rfl]
  · unfold rol0 at hb
    split at hb
    · rename_i e; subst e; simp
    · split at hb
      · rename_i e; simp; omega
      · exact absurd rfl hb
  · exact ⟨by decide, by decide, by decide, by decide, by decide, by decide, by decide, by decide, fun x hx => (by cases hx), fun x hx => (by cases hx), fun x hx => (by cases hx), fun x hx => (by cases hx), fun p hp => (by cases hp), fun x hx => (by cases hx)⟩
theorem psC_get : ∀ (ps : List (By × Int)) (i : Nat) (p : By × Int), ps[i]? = some p → (psC ps)[i * 2]? = some (str p.1) ∧ (psC ps)[i * 2 + 1]? = some (.int .i64 p.2)
  | q :: ps, 0, p, h => by
    injection h with h
    subst h
    exact ⟨rfl, rfl⟩
  | q :: ps, i + 1, p, h => by
    have := psC_get ps i p (by simpa using h)
    have e : psC (q :: ps) = str q.1 :: .int .i64 q.2 :: psC ps := rfl
    rw [e, show (i + 1) * 2 = i * 2 + 2 by omega]
    exact this
theorem params_next {ps : List (By × Int)} {i : Nat} {p : By × Int} {si s' : Wr} {u : Unit} (hx : ps[i]? = some p) (ha : paramsL (ps.drop i) si = some (u, s')) : ∃ k s1 v s2, placeL p.2 si = some (k, s1) ∧ bindL p.1 k s1 = some (v, s2) ∧ paramsL (ps.drop (i + 1)) s2 = some (u, s') := by
  have hlt := (List.getElem?_eq_some_iff.1 hx).1
  have e : ps.drop i = p :: ps.drop (i + 1) := by
    rw [List.drop_eq_getElem_cons hlt]
    congr 1
    have := List.getElem?_eq_getElem hlt
    rw [hx] at this
    exact (Option.some.inj this).symm
  rw [e] at ha
  obtain ⟨k, s1, h1, h2⟩ := zg ha
  obtain ⟨v, s2, h3, h4⟩ := zg h2
  exact ⟨k, s1, v, s2, h1, h3, h4⟩
def fnK (ps : List (By × Int)) (body : Tr) : Option (Unit × Wr) := (lb (paramsL ps) fun _ => lb (blkL (lwS (lwK 5000) 100) (unc body)) fun _ => endL) wr0
def FkP (nm : By) (n : Nat) (s' : Wr) (w : World) (e : Ending) (w' : World) : Prop := ∃ tv sv, e = .returned (.agg #[.string ⟨nm.toArray⟩, .int .i64 (n : Int), tv, sv]) ∧ (∃ R P mb v1 v2, Wc R w' P mb tv sv v1 v2 s' ∧ w.heap.size < P - 1) ∧ Below w.heap.size w w'
def FnC : Prop := ∀ (w : World) (nm : By) (at' : Int) (vp vb : Value) (nb : Nat) (ps : List (By × Int)) (body : Tr) (bcs : List Value), RowS (Lo w.heap.size) w 144 2 vp ps.length (psC ps) → RowS (Lo w.heap.size) w 147 7 vb nb bcs → StAt (Lo w.heap.size) w body bcs → ∀ (u : Unit) (s' : Wr), fnK ps body = some (u, s') →
    Calls Tryz.prog 43 #[.agg #[.string ⟨nm.toArray⟩, .int .i64 at', vp, vb]] w (FkP nm ps.length s' w)
def plT (t : Int) : Bool := t == 1 || t == 2
def zy (F : Mf) : Bool := decide (0 ≤ F.params) && (decide (F.params ≤ F.types.length) && (decide (F.types.length ≤ 3000) && F.types.all plT))
def LkP (b : Bool) (w : World) (e : Ending) (w' : World) : Prop := e = .returned (.bool b) ∧ Below w.heap.size w w'
theorem pl_1 {F : Mf} (h : F.params < 0) : zy F = false := by unfold zy; rw [decide_eq_false (by omega)]; rfl
theorem pl_2 {F : Mf} (h : (F.types.length : Int) < F.params) : zy F = false := by unfold zy; rw [decide_eq_false (p := F.params ≤ F.types.length) (by omega)]; simp
theorem pl_3 {F : Mf} (h : 3000 < F.types.length) : zy F = false := by unfold zy; rw [decide_eq_false (p := F.types.length ≤ 3000) (by omega)]; simp
theorem pl_4 {F : Mf} (h1 : ¬ F.params < 0) (h2 : ¬ (F.types.length : Int) < F.params) (h3 : ¬ 3000 < F.types.length) : zy F = F.types.all plT := by
  unfold zy; rw [decide_eq_true (p := 0 ≤ F.params) (by omega), decide_eq_true (p := F.params ≤ F.types.length) (by omega), decide_eq_true (p := F.types.length ≤ 3000) (by omega)]; simp
theorem all_bad {l : List Int} {i : Nat} {x : Int} (h : l[i]? = some x) (hx : plT x = false) : l.all plT = false := by
  rw [List.all_eq_false]
  exact ⟨x, List.mem_of_getElem? h, by simp [hx]⟩
theorem places_any (w : World) (fb fo : Nat) (F : Mf) (h : FnAt w fb fo F) : Calls Tryz.prog 46 #[.pointer (some ⟨fb, fo, none⟩)] w (LkP (zy F) w) := by
  have k1 := h.c1
  obtain ⟨v, k2, q, c, rfl, hl6, hI, hcells⟩ := h.c2
  have d1 : w.drew.cell? ⟨fb, fo + 1, none⟩ = some (.int .i64 F.params) := k1
  have d2 : w.drew.cell? ⟨fb, fo + 2, none⟩ = some (.slice q F.types.length c) := k2
  obtain ⟨pa, hpa⟩ : ∃ pa, F.params = pa := ⟨_, rfl⟩
  obtain ⟨n, hn⟩ : ∃ n, F.types.length = n := ⟨_, rfl⟩
  rw [hpa] at k1 d1
  rw [hn] at k2 d2 hl6
  have HI : Hid (F.params = pa ∧ F.types.length = n) := ⟨hpa, hn⟩
  have HC : Hid (F.types = [] ∨ ∃ g o, q = some ⟨g, o, none⟩ ∧ ∀ j x, F.types[j]? = some x → w.cell? ⟨g, o + j, none⟩ = some (.int .i64 x)) := hcells
  generalize hG : LkP (zy F) w = G
  have HG : Hid (LkP (zy F) w = G) := hG
  clear hG hcells hI h hpa hn
  by_cases h1 : pa < 0
  · have HE : Hid (G (.returned (.bool false)) w.drew) := by show G _ _; rw [← HG.out, pl_1 (by rw [HI.out.1]; exact h1)]; exact ⟨rfl, (Below.refl _ _).drew⟩
    have t1 : decide (pa < 0) = true := decide_eq_true h1
    clear h1
    go_enter Tryz.func46, Tryz.ntmps46
    go_wp2_with fail
    go_region
    go_wp2
    exact HE.out
  by_cases h2 : (n : Int) < pa
  · have HE : Hid (G (.returned (.bool false)) w.drew) := by show G _ _; rw [← HG.out, pl_2 (by rw [HI.out.1, HI.out.2]; exact h2)]; exact ⟨rfl, (Below.refl _ _).drew⟩
    have t1 : decide (pa < 0) = false := decide_eq_false h1
    have t2 : decide ((n : Int) < pa) = true := decide_eq_true h2
    clear h1 h2
    go_enter Tryz.func46, Tryz.ntmps46
    go_wp2_with fail
    go_region
    go_wp2
    exact HE.out
  by_cases h3 : 3000 < n
  · have HE : Hid (G (.returned (.bool false)) w.drew) := by show G _ _; rw [← HG.out, pl_3 (by rw [HI.out.2]; exact h3)]; exact ⟨rfl, (Below.refl _ _).drew⟩
    have t1 : decide (pa < 0) = false := decide_eq_false h1
    have t2 : decide ((n : Int) < pa) = false := decide_eq_false h2
    have t3 : decide ((3000 : Int) < n) = true := decide_eq_true (by omega)
    clear h1 h2 h3
    go_enter Tryz.func46, Tryz.ntmps46
    go_wp2_with fail
    go_region
    go_wp2
    exact HE.out
  have HP : Hid (zy F = F.types.all plT) := pl_4 (by rw [HI.out.1]; exact h1) (by rw [HI.out.1, HI.out.2]; exact h2) (by rw [HI.out.2]; exact h3)
  have t1 : decide (pa < 0) = false := decide_eq_false h1
  have t2 : decide ((n : Int) < pa) = false := decide_eq_false h2
  have t3 : decide ((3000 : Int) < n) = false := decide_eq_false (by omega)
  clear h1 h2 h3
  go_enter Tryz.func46, Tryz.ntmps46
  go_wp2_with fail
  go_region
  go_wp2_with fail
  go_loopw [35] (fun v wr => ∃ i : Nat, i ≤ n ∧ v = .int .i64 i ∧ wr = w.drew ∧ Hid ((F.types.take i).all plT = true)) (fun v _ => n - (intOf v).toNat)
  case atStart => exact ⟨0, Nat.zero_le _, rfl, rfl, (by show _ = _; simp)⟩
  case round =>
    obtain ⟨i, hin, rfl, rfl, HA⟩ := hrel
    by_cases hlt2 : i < n
    · obtain ⟨x, hx⟩ : ∃ x, F.types[i]? = some x := ⟨F.types[i]'(by rw [HI.out.2]; exact hlt2), List.getElem?_eq_getElem _⟩
      obtain ⟨g, p, rfl, hcs⟩ : ∃ g o, q = some ⟨g, o, none⟩ ∧ ∀ j x, F.types[j]? = some x → w.cell? ⟨g, o + j, none⟩ = some (.int .i64 x) := by
        rcases HC.out with h | h
        · rw [h] at hx; simp at hx
        · exact h
      have k3 : w.drew.cell? ⟨g, p + i, none⟩ = some (.int .i64 x) := hcs i x hx
      have hl9 : (i : Int) < (n : Int) := by omega
      have HX : Hid (F.types[i]? = some x) := hx
      clear hcs hx
      cases ht : plT x with
      | true =>
        have HA2 : Hid ((F.types.take (i + 1)).all plT = true) := by show _ = _; rw [zY HX.out, List.all_append, HA.out]; simp [ht]
        have tx : x = 1 ∨ x = 2 := by simpa [plT] using ht
        clear ht
        rcases tx with rfl | rfl
        · go_wp2
          exact ⟨⟨i + 1, by omega, by go_num, by trivial, HA2⟩, by simp [intOf]; omega⟩
        · go_wp2
          exact ⟨⟨i + 1, by omega, by go_num, by trivial, HA2⟩, by simp [intOf]; omega⟩
      | false =>
        have HE : Hid (G (.returned (.bool false)) w.drew) := by show G _ _; rw [← HG.out, HP.out, all_bad HX.out ht]; exact ⟨rfl, (Below.refl _ _).drew⟩
        have tx : (x == 1) = false ∧ (x == 2) = false := by simpa [plT] using ht
        obtain ⟨tx1, tx2⟩ := tx
        have tx3 : (x != 1) = true := by simp [bne, tx1]
        have tx4 : (x != 2) = true := by simp [bne, tx2]
        clear ht
        go_wp2
        exact HE.out
    · have hin2 : i = n := by omega
      subst hin2
      have HE : Hid (G (.returned (.bool true)) w.drew) := by
        show G _ _
        have e : F.types.take i = F.types := by rw [← HI.out.2, List.take_length]
        have := HA.out
        rw [e] at this
        rw [← HG.out, HP.out, this]
        exact ⟨rfl, (Below.refl _ _).drew⟩
      go_wp2
      exact HE.out
def isB (F : Mf) (p k : Int) : Bool := decide (0 ≤ p ∧ p < F.types.length) && (F.types.getD p.toNat 0 == k)
def qF (F : Mf) (p k : Int) : Bool := k == 0 || isB F p k
def LqP (b : Bool) (w : World) (e : Ending) (w' : World) : Prop := e = .returned (.bool b) ∧ w' = w
def BoxF (w : World) (bf : Nat) (F : Mf) : Prop := ∃ fb fo, w.cell? ⟨bf, 0, none⟩ = some (.pointer (some ⟨fb, fo, none⟩)) ∧ FnAt w fb fo F
theorem is_1 {F : Mf} {p k : Int} (h : p < 0) : isB F p k = false := by unfold isB; rw [decide_eq_false (by omega)]; rfl
theorem is_2 {F : Mf} {p k : Int} (h : ¬ p < F.types.length) : isB F p k = false := by unfold isB; rw [decide_eq_false (by omega)]; rfl
theorem is_3 {F : Mf} {p : Nat} {x k : Int} (h : F.types[p]? = some x) : isB F (p : Int) k = (x == k) := by
  have := (List.getElem?_eq_some_iff.1 h).1
  unfold isB
  rw [decide_eq_true (by omega), Bool.true_and, Int.toNat_natCast, List.getD_eq_getElem?_getD, h]
  rfl
theorem is_any (w : World) (bf : Nat) (F : Mf) (p k : Int) (h : BoxF w bf F) : Calls Tryz.prog 112 #[.int .i64 p, .int .i64 k, ptr bf] w (LqP (isB F p k) w) := by
  obtain ⟨fb, fo, k0, hf⟩ := h
  obtain ⟨v, k2, q, c, rfl, hl6, hI, hcells⟩ := hf.c2
  obtain ⟨n, hn⟩ : ∃ n, F.types.length = n := ⟨_, rfl⟩
  rw [hn] at k2 hl6
  have HN : Hid (F.types.length = n) := hn
  generalize hG : LqP (isB F p k) w = G
  have HG : Hid (LqP (isB F p k) w = G) := hG
  clear hG hf hI hn
  by_cases h1 : p < 0
  · have HE : Hid (G (.returned (.bool false)) w) := by show G _ _; rw [← HG.out, is_1 h1]; exact ⟨rfl, rfl⟩
    have t1 : decide (0 ≤ p) = false := decide_eq_false (by omega)
    clear h1 hcells
    go_enter Tryz.func112, Tryz.ntmps112
    go_wp2
    exact HE.out
  · obtain ⟨i, rfl⟩ : ∃ i : Nat, p = i := ⟨p.toNat, by omega⟩
    by_cases h2 : i < n
    · obtain ⟨x, hx⟩ : ∃ x, F.types[i]? = some x := ⟨F.types[i]'(by rw [HN.out]; exact h2), List.getElem?_eq_getElem _⟩
      obtain ⟨g, o, rfl, hcs⟩ : ∃ g o, q = some ⟨g, o, none⟩ ∧ ∀ j x, F.types[j]? = some x → w.cell? ⟨g, o + j, none⟩ = some (.int .i64 x) := by
        rcases hcells with h | h
        · rw [h] at hx; simp at hx
        · exact h
      have k3 := hcs i x hx
      have HE : Hid (G (.returned (.bool (x == k))) w) := by show G _ _; rw [← HG.out, is_3 hx]; exact ⟨rfl, rfl⟩
      have hl9 : (i : Int) < (n : Int) := by omega
      clear hcs hx hcells
      go_enter Tryz.func112, Tryz.ntmps112
      go_wp2
      exact HE.out
    · have HE : Hid (G (.returned (.bool false)) w) := by show G _ _; rw [← HG.out, is_2 (by rw [HN.out]; omega)]; exact ⟨rfl, rfl⟩
      have t1 : decide ((i : Int) < (n : Int)) = false := decide_eq_false (by omega)
      have t2 : decide (i < n) = false := decide_eq_false (by omega)
      clear h1 hcells
      go_enter Tryz.func112, Tryz.ntmps112
      go_wp2
      exact HE.out
abbrev isV (bf : Nat) : Value := .func (.func 112) #[] #[ptr bf]
theorem has_any (w : World) (bf bi : Nat) (F : Mf) (p k : Int) (h : BoxF w bf F) (hi : w.cell? ⟨bi, 0, none⟩ = some (isV bf)) : Calls Tryz.prog 113 #[.int .i64 p, .int .i64 k, ptr bi] w (LqP (qF F p k) w) := by
  generalize hG : LqP (qF F p k) w = G
  have HG : Hid (LqP (qF F p k) w = G) := hG
  have HC : Hid (∀ W, W = w → Calls Tryz.prog 112 #[.int .i64 p, .int .i64 k, ptr bf] W (LqP (isB F p k) W)) := fun W e => by subst e; exact is_any W bf F p k h
  clear h hG
  by_cases h0 : k = 0
  · subst h0
    have HE : Hid (G (.returned (.bool true)) w) := by show G _ _; rw [← HG.out]; exact ⟨rfl, rfl⟩
    go_enter Tryz.func113, Tryz.ntmps113
    go_wp2
    exact HE.out
  · have t0 : (k == 0) = false := by simpa using h0
    have HE : Hid (G (.returned (.bool (isB F p k))) w) := by show G _ _; rw [← HG.out]; unfold qF; rw [t0]; exact ⟨rfl, rfl⟩
    clear h0
    go_enter Tryz.func113, Tryz.ntmps113
    go_wp2_with (go_at_call 112; refine (HC.out _ rfl).mono ?_; rintro e w' ⟨rfl, rfl⟩)
    exact HE.out
def marksL : List By := [[43], [45], [42], [47], [37], [61, 61], [33, 61], [60], [60, 61], [62], [62, 61]]
def markB (op : By) : Bool := marksL.contains op
abbrev marksV : Array Value := #[.string ⟨#[43]⟩, .string ⟨#[45]⟩, .string ⟨#[42]⟩, .string ⟨#[47]⟩, .string ⟨#[37]⟩, .string ⟨#[61, 61]⟩, .string ⟨#[33, 61]⟩, .string ⟨#[60]⟩, .string ⟨#[60, 61]⟩, .string ⟨#[62]⟩, .string ⟨#[62, 61]⟩]
def MkE (w : World) : Prop := ∀ j, j < 11 → w.cell? ⟨4, j, none⟩ = some (marksV.getD j undef)
theorem mk_ix (i : Nat) (hi : i < 11) (w : World) : (Instr.index 264 (.agg marksV) (.int .i64 (i : Int))).run Tryz.prog w = .ok (.string ⟨(marksL.getD i []).toArray⟩) w := by
  have h : i = 0 ∨ i = 1 ∨ i = 2 ∨ i = 3 ∨ i = 4 ∨ i = 5 ∨ i = 6 ∨ i = 7 ∨ i = 8 ∨ i = 9 ∨ i = 10 := by omega
  rcases h with rfl | rfl | rfl | rfl | rfl | rfl | rfl | rfl | rfl | rfl | rfl <;> (show _ = _; kernel_rfl)
theorem mark_get (i : Nat) (hi : i < 11) : marksL[i]? = some (marksL.getD i []) := by
  rw [List.getD_eq_getElem?_getD]
  have : i < marksL.length := hi
  rw [List.getElem?_eq_getElem this]
  rfl
theorem mark_yes {op : By} {i : Nat} (hi : i < 11) (h : marksL.getD i [] = op) : markB op = true := by
  unfold markB
  rw [List.contains_iff_mem]
  rw [← h]
  exact List.mem_of_getElem? (mark_get i hi)
theorem mark_no {op : By} (h : ∀ i, i < 11 → marksL.getD i [] ≠ op) : markB op = false := by
  rw [Bool.eq_false_iff]
  intro e
  unfold markB at e
  rw [List.contains_iff_mem] at e
  obtain ⟨i, hi⟩ := List.getElem?_of_mem e
  have hl : i < 11 := (List.getElem?_eq_some_iff.1 hi).1
  rw [mark_get i hl] at hi
  injection hi with hi
  exact h i hl hi
theorem mark_any (w : World) (y : ByteArray) (h : MkE w) : Calls Tryz.prog 114 #[.string y] w (LqP (markB y.data.toList) w) := by
  have m0 := h 0 (by omega)
  have m1 := h 1 (by omega)
  have m2 := h 2 (by omega)
  have m3 := h 3 (by omega)
  have m4 := h 4 (by omega)
  have m5 := h 5 (by omega)
  have m6 := h 6 (by omega)
  have m7 := h 7 (by omega)
  have m8 := h 8 (by omega)
  have m9 := h 9 (by omega)
  have m10 := h 10 (by omega)
  simp only [marksV, Array.getD_eq_getD_getElem?, List.getElem?_toArray, List.getElem?_cons_zero, List.getElem?_cons_succ, Option.getD_some] at m0 m1 m2 m3 m4 m5 m6 m7 m8 m9 m10
  generalize hG : LqP (markB y.data.toList) w = G
  have HG : Hid (LqP (markB y.data.toList) w = G) := hG
  clear h hG
  go_enter Tryz.func114, Tryz.ntmps114
  go_wp2_with fail
  go_loopw [6] (fun v wr => ∃ i : Nat, i ≤ 11 ∧ v = .int .i64 i ∧ wr = w ∧ Hid (∀ j, j < i → marksL.getD j [] ≠ y.data.toList)) (fun v _ => 11 - (intOf v).toNat)
  case atStart => exact ⟨0, Nat.zero_le _, rfl, rfl, fun j hj => by omega⟩
  case round =>
    obtain ⟨i, hin, rfl, rfl, HA⟩ := hrel
    by_cases hlt : i < 11
    · have hx := mk_ix i hlt
      obtain ⟨m, hm⟩ : ∃ m : ByteArray, m = ⟨(marksL.getD i []).toArray⟩ := ⟨_, rfl⟩
      rw [← hm] at hx
      have HM : Hid (marksL.getD i [] = m.data.toList) := by show _ = _; rw [hm]
      have hl9 : (i : Int) < 11 := by omega
      clear hm
      by_cases he : m = y
      · have HE : Hid (G (.returned (.bool true)) wr) := by show G _ _; rw [← HG.out, mark_yes hlt (by rw [HM.out, he])]; exact ⟨rfl, rfl⟩
        subst he
        go_wp2
        exact HE.out
      · have HA2 : Hid (∀ j, j < i + 1 → marksL.getD j [] ≠ y.data.toList) := fun j hj => by
          by_cases e : j = i
          · subst e
            rw [HM.out]
            intro e2
            exact he (by cases m; cases y; congr 1; exact Array.ext' e2)
          · exact HA.out j (by omega)
        have he2 : (m.toList == y.toList) = false := by
          rw [← tl_eq, ← tl_eq, Bool.eq_false_iff]
          intro e
          have e2 : m.data.toList = y.data.toList := by simpa using e
          exact he (by cases m; cases y; congr 1; exact Array.ext' e2)
        go_wp2
        exact ⟨⟨i + 1, by omega, by go_num, by trivial, HA2⟩, by simp [intOf]; omega⟩
    · have hin2 : i = 11 := by omega
      subst hin2
      have HE : Hid (G (.returned (.bool false)) wr) := by show G _ _; rw [← HG.out, mark_no HA.out]; exact ⟨rfl, rfl⟩
      go_wp2
      exact HE.out
def LdP (b : Bool) (w : World) (e : Ending) (w' : World) : Prop := e = .returned (.bool b) ∧ w' = w.drew
def fitsB (F : Mf) (G : Option Mf) (l : List Int) : Bool := match G with
  | none => false
  | some G => decide ((l.length : Int) = G.params) && (l.zip G.types).all (fun p => isB F p.1 p.2)
theorem fits_1 {F G : Mf} {l : List Int} (h : (l.length : Int) ≠ G.params) : fitsB F (some G) l = false := by unfold fitsB; simp [h]
theorem fits_2 {F G : Mf} {l : List Int} (h : (l.length : Int) = G.params) : fitsB F (some G) l = (l.zip G.types).all (fun p => isB F p.1 p.2) := by unfold fitsB; simp [h]
theorem all_bad2 {α : Type} {f : α → Bool} {l : List α} {i : Nat} {x : α} (h : l[i]? = some x) (hx : f x = false) : l.all f = false := by
  rw [List.all_eq_false]
  exact ⟨x, List.mem_of_getElem? h, by simp [hx]⟩
theorem fits_any (w : World) (sb so bf gb' go : Nat) (s : Ms) (F G : Mf) (hs : StepAt w sb so s) (hb : BoxF w bf F) (hg : FnAt w gb' go G) (hpl : zy G = true) :
    Calls Tryz.prog 115 #[.pointer (some ⟨sb, so, none⟩), .pointer (some ⟨gb', go, none⟩), isV bf] w (LdP (fitsB F (some G) s.args) w) := by
  obtain ⟨va, k9, qa, ca, rfl, hla, hIa, hca⟩ := hs.c9
  have k1 := hg.c1
  obtain ⟨vt, k2, qt, ct, rfl, hlt, hIt, hct⟩ := hg.c2
  have d9 : w.drew.cell? ⟨sb, so + 9, none⟩ = some (.slice qa s.args.length ca) := k9
  have d1 : w.drew.cell? ⟨gb', go + 1, none⟩ = some (.int .i64 G.params) := k1
  have d2 : w.drew.cell? ⟨gb', go + 2, none⟩ = some (.slice qt G.types.length ct) := k2
  obtain ⟨na, hna⟩ : ∃ na, s.args.length = na := ⟨_, rfl⟩
  obtain ⟨nt, hnt⟩ : ∃ nt, G.types.length = nt := ⟨_, rfl⟩
  obtain ⟨pa, hpa⟩ : ∃ pa, G.params = pa := ⟨_, rfl⟩
  rw [hna] at d9 hla
  rw [hnt] at d2 hlt
  rw [hpa] at d1
  have hple : pa ≤ nt := by
    unfold zy at hpl
    simp at hpl
    omega
  have HN : Hid (s.args.length = na ∧ G.types.length = nt ∧ G.params = pa) := ⟨hna, hnt, hpa⟩
  have HCa : Hid (s.args = [] ∨ ∃ g o, qa = some ⟨g, o, none⟩ ∧ ∀ j x, s.args[j]? = some x → w.cell? ⟨g, o + j, none⟩ = some (.int .i64 x)) := hca
  have HCt : Hid (G.types = [] ∨ ∃ g o, qt = some ⟨g, o, none⟩ ∧ ∀ j x, G.types[j]? = some x → w.cell? ⟨g, o + j, none⟩ = some (.int .i64 x)) := hct
  have HC : Hid (∀ p k, Calls Tryz.prog 112 #[.int .i64 p, .int .i64 k, ptr bf] w.drew (LqP (isB F p k) w.drew)) := fun p k => is_any w.drew bf F p k (by
    obtain ⟨fb, fo, h1, h2⟩ := hb
    exact ⟨fb, fo, h1, h2.below (Below.refl _ _).drew⟩)
  generalize hGG : LdP (fitsB F (some G) s.args) w = GG
  have HG : Hid (LdP (fitsB F (some G) s.args) w = GG) := hGG
  clear hs hb hg hpl hca hct hIa hIt hna hnt hpa k9 k1 k2 hGG
  by_cases h1 : (na : Int) = pa
  · subst h1
    have HF : Hid (fitsB F (some G) s.args = (s.args.zip G.types).all (fun p => isB F p.1 p.2)) := fits_2 (by rw [HN.out.1, HN.out.2.2])
    have hz : na ≤ nt := by omega
    have HZ : Hid ((s.args.zip G.types).length = na) := by show _ = _; rw [List.length_zip, HN.out.1, HN.out.2.1]; omega
    clear hple
    go_enter Tryz.func115, Tryz.ntmps115
    go_wp2_with fail
    go_region
    go_wp2_with fail
    go_loopw [28] (fun v wr => ∃ i : Nat, i ≤ na ∧ v = .int .i64 i ∧ wr = w.drew ∧ Hid (((s.args.zip G.types).take i).all (fun p => isB F p.1 p.2) = true)) (fun v _ => na - (intOf v).toNat)
    case atStart => exact ⟨0, Nat.zero_le _, rfl, rfl, (by show _ = _; simp)⟩
    case round =>
      obtain ⟨i, hin, rfl, rfl, HA⟩ := hrel
      by_cases hlt2 : i < na
      · obtain ⟨x, hx⟩ : ∃ x, s.args[i]? = some x := ⟨s.args[i]'(by rw [HN.out.1]; exact hlt2), List.getElem?_eq_getElem _⟩
        obtain ⟨t, ht⟩ : ∃ t, G.types[i]? = some t := ⟨G.types[i]'(by rw [HN.out.2.1]; omega), List.getElem?_eq_getElem _⟩
        obtain ⟨g1, o1, rfl, hc1⟩ : ∃ g o, qa = some ⟨g, o, none⟩ ∧ ∀ j x, s.args[j]? = some x → w.cell? ⟨g, o + j, none⟩ = some (.int .i64 x) := by
          rcases HCa.out with h | h
          · rw [h] at hx; simp at hx
          · exact h
        obtain ⟨g2, o2, rfl, hc2⟩ : ∃ g o, qt = some ⟨g, o, none⟩ ∧ ∀ j x, G.types[j]? = some x → w.cell? ⟨g, o + j, none⟩ = some (.int .i64 x) := by
          rcases HCt.out with h | h
          · rw [h] at ht; simp at ht
          · exact h
        have k3 : w.drew.cell? ⟨g1, o1 + i, none⟩ = some (.int .i64 x) := hc1 i x hx
        have k4 : w.drew.cell? ⟨g2, o2 + i, none⟩ = some (.int .i64 t) := hc2 i t ht
        have hl9 : (i : Int) < (na : Int) := by omega
        have hl8 : (i : Int) < (nt : Int) := by omega
        have HX : Hid ((s.args.zip G.types)[i]? = some (x, t)) := by show _ = _; rw [List.getElem?_zip_eq_some]; exact ⟨hx, ht⟩
        clear hc1 hc2 hx ht
        cases hb : isB F x t with
        | true =>
          have HA2 : Hid (((s.args.zip G.types).take (i + 1)).all (fun p => isB F p.1 p.2) = true) := by show _ = _; rw [zY HX.out, List.all_append, HA.out]; simp [hb]
          have HB : Hid (isB F x t = true) := hb
          clear hb
          go_wp2_with (go_at_call 112; refine (HC.out _ _).mono ?_; rintro e w' ⟨rfl, rfl⟩; rw [HB.out])
          exact ⟨⟨i + 1, by omega, by go_num, by trivial, HA2⟩, by simp [intOf]; omega⟩
        | false =>
          have HE : Hid (GG (.returned (.bool false)) w.drew) := by show GG _ _; rw [← HG.out, HF.out, all_bad2 HX.out hb]; exact ⟨rfl, rfl⟩
          have HB : Hid (isB F x t = false) := hb
          clear hb
          go_wp2_with (go_at_call 112; refine (HC.out _ _).mono ?_; rintro e w' ⟨rfl, rfl⟩; rw [HB.out])
          exact HE.out
      · have hin2 : i = na := by omega
        subst hin2
        have HE : Hid (GG (.returned (.bool true)) w.drew) := by
          show GG _ _
          have e : (s.args.zip G.types).take i = s.args.zip G.types := by rw [List.take_of_length_le (by rw [HZ.out]; omega)]
          have := HA.out
          rw [e] at this
          rw [← HG.out, HF.out, this]
          exact ⟨rfl, rfl⟩
        go_wp2
        exact HE.out
  · have HE : Hid (GG (.returned (.bool false)) w.drew) := by show GG _ _; rw [← HG.out, fits_1 (by rw [HN.out.1, HN.out.2.2]; exact h1)]; exact ⟨rfl, rfl⟩
    have t1 : ((na : Int) != pa) = true := by simpa using h1
    clear h1 hple
    go_enter Tryz.func115, Tryz.ntmps115
    go_wp2_with fail
    go_region
    go_wp2
    exact HE.out
theorem fits_none (w : World) (sb so bf : Nat) (s : Ms) (F : Mf) : Calls Tryz.prog 115 #[.pointer (some ⟨sb, so, none⟩), .pointer none, isV bf] w (LdP (fitsB F none s.args) w) := by
  generalize hGG : LdP (fitsB F none s.args) w = GG
  have HE : Hid (GG (.returned (.bool false)) w.drew) := by show GG _ _; rw [← hGG]; exact ⟨rfl, rfl⟩
  clear hGG
  go_enter Tryz.func115, Tryz.ntmps115
  go_wp2_with fail
  go_region
  go_wp2
  exact HE.out
end Go.Proofs.YtnfhpdbbfejioaaGreatDoor.Mid
