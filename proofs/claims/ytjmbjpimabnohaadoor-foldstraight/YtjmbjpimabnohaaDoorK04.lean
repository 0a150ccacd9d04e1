/- QA QB QC -/
import Derived.Test.YtjmbjpimabnohaaDoorK03
import Derived.Maps.RangeWalk
namespace Go.Proofs.YtjmbjpimabnohaaDoor.Mid
set_option linter.unusedVariables false
set_option linter.unusedSimpArgs false
open Go Go.RowKit
def Rv (v : Value) : Option (DataW Value × List MemPlace) := some (.held v, [])
def Mp (k : TypeId) (w : World) (b : Nat) (f : Lit → Option Value) (n : Nat) : Prop :=
  ∃ D, w.ownsMap Tryd.prog k Rv b n D ∧ Maps.size D = n ∧ ∀ kl, (∀ z, D.atKey kl (.held z) = .held ((f kl).getD z)) ∧ Maps.has D kl = (f kl).isSome
theorem own_size {k : TypeId} {w : World} {b n : Nat} {D : DataW Value} (h : w.ownsMap Tryd.prog k Rv b n D) : w.ownsMap Tryd.prog k Rv b (Maps.size D) D := by
  obtain ⟨es, clock, h1, h2, h3, rfl⟩ := h
  exact ⟨es, clock, h1, h2, by simp [Maps.size, length_sorted], rfl⟩
theorem Mp.obj {k : TypeId} {w : World} {b n : Nat} {f : Lit → Option Value} (h : Mp k w b f n) : ∃ es clock, w.heap[b]? = some (.map es clock) := by
  obtain ⟨D, ⟨es, clock, h1, _⟩, _⟩ := h
  exact ⟨es, clock, h1⟩
theorem Mp.kept {k : TypeId} {w w' : World} {b n : Nat} {f : Lit → Option Value} (h : Mp k w b f n) (hk : w'.heap[b]? = w.heap[b]?) : Mp k w' b f n := by
  obtain ⟨D, ⟨es, clock, h1, h2⟩, h3⟩ := h
  exact ⟨D, ⟨es, clock, by rw [hk]; exact h1, h2⟩, h3⟩
theorem Mp.lt {k : TypeId} {w : World} {b n : Nat} {f : Lit → Option Value} (h : Mp k w b f n) : b < w.heap.size := by
  obtain ⟨es, clock, h1⟩ := h.obj
  exact (Array.getElem?_eq_some_iff.1 h1).1
theorem Mp.made (k : TypeId) (w : World) : Mp k (w.alloc (.map #[] 0)) w.heap.size (fun _ => none) 0 :=
  ⟨_, World.ownsMap_made w Tryd.prog k Rv, rfl, fun kl => ⟨fun z => rfl, rfl⟩⟩
theorem Mp.look {k : TypeId} {w : World} {b n : Nat} {f : Lit → Option Value} {t e : TypeId} (h : Mp k w b f n) (K : Maps.Keyed Tryd.prog k) (ht : Tryd.prog.underlying t = some (.map k e)) {z : Value} (hz : (zeroValue e).run Tryd.prog w = .ok z w) {key : Value} {kl : Lit} (hkey : keyOf Tryd.prog k key = some kl) :
    (Instr.lookup t (.map (some b)) key false).run Tryd.prog w = .ok ((f kl).getD z) w := by
  obtain ⟨D, h1, _, h3⟩ := h
  obtain ⟨v, ps, hrun, hR⟩ := World.ownsMap.lookup h1 K ht hz (show Rv z = some (.held z, []) from rfl) hkey
  rw [(h3 kl).1] at hR
  unfold Rv at hR
  simp only [Option.some.injEq, Prod.mk.injEq, DataW.held.injEq] at hR
  rw [hrun, hR.1]
theorem Mp.look2 {k : TypeId} {w : World} {b n : Nat} {f : Lit → Option Value} {t e : TypeId} (h : Mp k w b f n) (K : Maps.Keyed Tryd.prog k) (ht : Tryd.prog.underlying t = some (.map k e)) {z : Value} (hz : (zeroValue e).run Tryd.prog w = .ok z w) {key : Value} {kl : Lit} (hkey : keyOf Tryd.prog k key = some kl) :
    (Instr.lookup t (.map (some b)) key true).run Tryd.prog w = .ok (.tuple #[(f kl).getD z, .bool (f kl).isSome]) w := by
  obtain ⟨D, h1, _, h3⟩ := h
  obtain ⟨v, ps, hrun, hR⟩ := World.ownsMap.look_ok h1 K ht hz (show Rv z = some (.held z, []) from rfl) hkey
  rw [(h3 kl).1] at hR
  unfold Rv at hR
  simp only [Option.some.injEq, Prod.mk.injEq, DataW.held.injEq] at hR
  rw [hrun, hR.1, (h3 kl).2]
theorem Mp.len {k : TypeId} {w : World} {b n : Nat} {f : Lit → Option Value} {t e : TypeId} (h : Mp k w b f n) (ht : Tryd.prog.underlying t = some (.map k e)) (ty : TypeId) : (Builtin.len_ #[t] ty #[.map (some b)]).run Tryd.prog w = .ok (.int .i64 n) w := by
  obtain ⟨D, h1, h2, _⟩ := h
  rw [h1.len ht ty, h2]
theorem Mp.put {k : TypeId} {w : World} {b n : Nat} {f g : Lit → Option Value} {t e : TypeId} (h : Mp k w b f n) (K : Maps.Keyed Tryd.prog k) (ht : Tryd.prog.underlying t = some (.map k e)) (hn : n < 100000000) {key : Value} {kl : Lit} (hkey : keyOf Tryd.prog k key = some kl) (hkl : WideAt.IsKeyLit kl) (v : Value)
    (hg : g kl = some v) (hgo : ∀ y, y ≠ kl → g y = f y) :
    ∃ w', (Instr.mapUpdate t (.map (some b)) key v).run Tryd.prog w = .ok () w' ∧ Mp k w' b g (if (f kl).isSome then n else n + 1) ∧ w.grownBy w' (some b) := by
  obtain ⟨D, h1, h2, h3⟩ := h
  obtain ⟨w', hrun, ho, hgr⟩ := World.ownsMap.update h1 K ht (by unfold maxLen; omega) hkey (show Rv v = some (.held v, []) from rfl)
  have hsz : Maps.size (D.put kl (.held v)) = if (f kl).isSome then n else n + 1 := by rw [Maps.size_put (h1.tidy K), (h3 kl).2, h2]
  refine ⟨w', hrun, ⟨_, ?_, hsz, fun y => ?_⟩, hgr⟩
  · rw [← hsz]; exact own_size ho
  · by_cases e : y = kl
    · subst e
      refine ⟨fun z => ?_, ?_⟩
      · rw [Maps.atKey_put_same h1.isMap hkl, hg]; rfl
      · rw [Maps.has_put_same h1.isMap hkl, hg]; rfl
    · refine ⟨fun z => ?_, ?_⟩
      · rw [Maps.atKey_put_other e, hgo y e]; exact (h3 y).1 z
      · rw [Maps.has_put_other e, hgo y e]; exact (h3 y).2
theorem key_i (x : Int) (hx : I64 x) : keyOf Tryd.prog 3 (.int .i64 x) = some (.int .i64 x) := Maps.keyOf_int_mk Tryd.underlying3 (WalkArith.wf_i64 (by have := hx.1; have := hx.2; omega))
theorem key_s (x : ByteArray) (hx : x.size ≤ 9223372036854775807) : keyOf Tryd.prog 9 (.string x) = some (.string x.data.toList) := Go.WideMaps.keyOf_string_mk Tryd.underlying9 (by unfold maxLen; omega)
theorem kdI : Maps.Keyed Tryd.prog 3 := Maps.int_keyed Tryd.underlying3
theorem kdS : Maps.Keyed Tryd.prog 9 := Maps.string_keyed Tryd.underlying9
theorem und69 : Tryd.prog.underlying 69 = some (.map 3 3) := Tryd.underlying69
theorem und62 : Tryd.prog.underlying 62 = some (.map 9 64) := Tryd.underlying62
theorem zero3 (w : World) : (zeroValue 3).run Tryd.prog w = .ok (.int .i64 0) w := by kernel_rfl
theorem zero64 (w : World) : (zeroValue 64).run Tryd.prog w = .ok (.pointer none) w := by kernel_rfl
def labF (l : List Ms) : Lit → Option Value
  | .int .i64 x => (labOf l x).map fun (k : Nat) => .int .i64 (k : Int)
  | _ => none
def labsOk (l : List Ms) : Prop := ((l.filter (fun s => s.code == 6)).map (·.label)).Nodup
theorem labOf_snoc (l : List Ms) (s : Ms) (x : Int) : labOf (l ++ [s]) x = (labOf l x).or (if s.code = 6 ∧ s.label = x then some l.length else none) := by
  unfold labOf
  rw [List.findIdx?_append]
  congr 1
  by_cases h : s.code = 6 ∧ s.label = x
  · rw [if_pos h]; simp [h.1, h.2]
  · rw [if_neg h]
    have : (s.code == 6 && s.label == x) = false := by
      rw [Bool.eq_false_iff]
      intro e
      simp at e
      exact h e
    simp [this]
theorem labOf_none {l : List Ms} {x : Int} : labOf l x = none ↔ ∀ s ∈ l, ¬ (s.code = 6 ∧ s.label = x) := by
  unfold labOf
  rw [List.findIdx?_eq_none_iff]
  constructor
  · intro h s hs e
    have := h s hs
    simp [e.1, e.2] at this
  · intro h s hs
    have := h s hs
    rw [Bool.eq_false_iff]
    intro e
    simp at e
    exact this e
theorem labsOk_snoc {l : List Ms} {s : Ms} : labsOk (l ++ [s]) ↔ labsOk l ∧ (s.code = 6 → labOf l s.label = none) := by
  unfold labsOk
  rw [List.filter_append, List.map_append]
  by_cases h : s.code = 6
  · have e : ([s].filter (fun s => s.code == 6)).map (·.label) = [s.label] := by simp [h]
    rw [e, List.nodup_append]
    constructor
    · rintro ⟨h1, _, h3⟩
      refine ⟨h1, fun _ => labOf_none.2 fun t ht e => ?_⟩
      refine h3 t.label (List.mem_map.2 ⟨t, List.mem_filter.2 ⟨ht, by simp [e.1]⟩, rfl⟩) s.label (by simp) e.2
    · rintro ⟨h1, h2⟩
      refine ⟨h1, by simp, fun a ha b hb e => ?_⟩
      obtain ⟨t, ht, rfl⟩ := List.mem_map.1 ha
      have ht := List.mem_filter.1 ht
      simp at hb
      exact labOf_none.1 (h2 h) t ht.1 ⟨by simpa using ht.2, by rw [e, hb]⟩
  · have e : ([s].filter (fun s => s.code == 6)).map (·.label) = [] := by simp [h]
    rw [e, List.append_nil]
    exact ⟨fun a => ⟨a, fun b => absurd b h⟩, fun a => a.1⟩
theorem labsOk_take {l : List Ms} {i : Nat} (h : labsOk l) : labsOk (l.take i) := by
  unfold labsOk at h ⊢
  exact h.sublist (((List.take_sublist i l).filter _).map _)
theorem take_snoc {α : Type} {l : List α} {i : Nat} {s : α} (h : l[i]? = some s) : l.take (i + 1) = l.take i ++ [s] := by
  obtain ⟨h1, rfl⟩ := List.getElem?_eq_some_iff.1 h
  exact (List.take_append_getElem h1).symm
def LbP (l : List Ms) (w : World) (e : Ending) (w' : World) : Prop :=
  Below w.heap.size w w' ∧ ((labsOk l ∧ e = .returned (.tuple #[.map (some w.heap.size), .bool true]) ∧ ∃ n, n ≤ l.length ∧ Mp 3 w' w.heap.size (labF l) n) ∨ (¬ labsOk l ∧ e = .returned (.tuple #[.map none, .bool false])))
structure LbI (l : List Ms) (w wr : World) (i : Nat) : Prop where
  bel : Below w.heap.size w wr
  mp : ∃ n, n ≤ i ∧ Mp 3 wr w.heap.size (labF (l.take i)) n
  ok : labsOk (l.take i)
theorem lb_put {l : List Ms} {w wr W9 : World} {i : Nat} {s : Ms} (h : LbI l w wr i) (hs : l[i]? = some s) (h6 : s.code = 6) (hn : labOf (l.take i) s.label = none) (hB : Below wr.heap.size wr W9) (hI : I64 s.label) (hi : i ≤ 1000000) :
    ∃ w9, (Instr.mapUpdate 69 (.map (some w.heap.size)) (.int .i64 s.label) (.int .i64 (i : Int))).run Tryd.prog W9 = .ok () w9 ∧ LbI l w w9 (i + 1) ∧ W9.grownBy w9 (some w.heap.size) := by
  obtain ⟨n, hn1, hm⟩ := h.mp
  have hlt := hm.lt
  have hlen : (l.take i).length = i := by have := (List.getElem?_eq_some_iff.1 hs).1; simp; omega
  obtain ⟨w9, h1, h2, h3⟩ := (hm.kept (hB.block _ hlt)).put kdI und69 (by omega) (key_i _ hI) trivial (.int .i64 (i : Int)) (g := labF (l.take (i + 1))) (by
      show (labOf (l.take (i + 1)) s.label).map _ = _
      rw [take_snoc hs, labOf_snoc, hn, if_pos ⟨h6, rfl⟩, hlen]
      rfl) (fun y hy => by
      cases y with
      | int k x =>
        cases k <;> try rfl
        show (labOf (l.take (i + 1)) x).map _ = (labOf (l.take i) x).map _
        rw [take_snoc hs, labOf_snoc, if_neg (fun e => hy (by rw [e.2])), Option.or_none]
      | _ => rfl)
  refine ⟨w9, h1, ⟨?_, ⟨_, ?_, h2⟩, ?_⟩, h3⟩
  · exact (h.bel.trans (hB.mono h.bel.size)).grown h3 (Nat.le_trans h.bel.size hB.size) (fun k e => by injection e with e; omega)
  · split <;> omega
  · rw [take_snoc hs]
    exact labsOk_snoc.2 ⟨h.ok, fun _ => hn⟩
theorem lb_skip {l : List Ms} {w wr W9 : World} {i : Nat} {s : Ms} (h : LbI l w wr i) (hs : l[i]? = some s) (h6 : s.code ≠ 6) (hB : Below wr.heap.size wr W9) : LbI l w W9 (i + 1) := by
  obtain ⟨n, hn1, hm⟩ := h.mp
  have e : labF (l.take (i + 1)) = labF (l.take i) := by
    funext y
    cases y with
    | int k x =>
      cases k <;> try rfl
      show (labOf (l.take (i + 1)) x).map _ = (labOf (l.take i) x).map _
      rw [take_snoc hs, labOf_snoc, if_neg (fun e => h6 e.1), Option.or_none]
    | _ => rfl
  refine ⟨h.bel.trans (hB.mono h.bel.size), ⟨n, by omega, ?_⟩, ?_⟩
  · rw [e]; exact hm.kept (hB.block _ hm.lt)
  · rw [take_snoc hs]
    exact labsOk_snoc.2 ⟨h.ok, fun e => absurd e h6⟩
theorem al_bel2 (w : World) (A : Obj) : Below w.heap.size w (w.alloc A) := (Below.refl _ _).alloc (Nat.le_refl _) _
set_option maxRecDepth 100000 in
set_option maxHeartbeats 4000000 in
theorem labels_any (w : World) (fb fo : Nat) (F : Mf) (h : FnAt w fb fo F) : Calls Tryd.prog 36 #[.pointer (some ⟨fb, fo, none⟩)] w (LbP F.steps w) := by
  obtain ⟨q, c, h3, hc, hst⟩ := h.c3
  have HSt : Hid (F.steps = [] ∨ ∃ g p, q = some ⟨g, p, none⟩ ∧ ∀ j s, F.steps[j]? = some s → StepAt w g (p + j * 10) s) := hst
  obtain ⟨n, hn⟩ : ∃ n, n = F.steps.length := ⟨_, rfl⟩
  have HN : Hid (n = F.steps.length) := hn
  have hn6 : n ≤ 1000000 := by rw [hn]; exact h.i2.2.2
  rw [← hn] at h3 hc
  have hmm : ∀ W : World, (Instr.makeMap 69 none).run Tryd.prog W = .ok (.map (some W.heap.size)) (W.alloc (.map #[] 0)) := fun W => by simp [Instr.makeMap, go_sem]
  have h3' := cell_old (A := .map #[] 0) h3
  generalize hG : LbP F.steps w = G
  have HG : Hid (LbP F.steps w = G) := hG
  have HS0 : Hid (LbI F.steps w (w.alloc (.map #[] 0)) 0) := ⟨al_bel2 _ _, ⟨0, Nat.le_refl _, by
    have e : labF (F.steps.take 0) = fun _ => none := by
      funext y
      cases y with
      | int k x => cases k <;> rfl
      | _ => rfl
    rw [e]; exact Mp.made 3 w⟩, by simp [labsOk]⟩
  clear hG hst h hn h3
  go_enter Tryd.func36, Tryd.ntmps36
  go_wp2_with fail
  obtain ⟨W4, hW4⟩ : ∃ W4, W4 = w.alloc (.map #[] 0) := ⟨_, rfl⟩
  rw [← hW4] at HS0 ⊢
  clear hW4 h3'
  go_loopw [2, 14] (fun v2 v wr => ∃ i : Nat, i ≤ n ∧ v2 = .map (some w.heap.size) ∧ v = .int .i64 i ∧ Hid (LbI F.steps w wr i)) (fun _ v _ => n - (intOf v).toNat)
  case atStart => exact ⟨0, Nat.zero_le _, rfl, rfl, HS0⟩
  case round =>
    obtain ⟨i, hin, rfl, rfl, HI⟩ := hrel
    by_cases hlt2 : i < n
    · obtain ⟨s, hs⟩ : ∃ s, F.steps[i]? = some s := ⟨F.steps[i]'(by rw [← HN.out]; exact hlt2), List.getElem?_eq_getElem _⟩
      obtain ⟨gs, ps, rfl, hsts⟩ : ∃ g p, q = some ⟨g, p, none⟩ ∧ ∀ j s, F.steps[j]? = some s → StepAt w g (p + j * 10) s := by
        rcases HSt.out with h | h
        · rw [h] at hs; simp at hs
        · exact h
      have HSA : Hid (StepAt w gs (ps + i * 10) s) := hsts i s hs
      have kp : ∀ (o : Nat) (v : Value), w.cell? ⟨gs, o, none⟩ = some v → wr.cell? ⟨gs, o, none⟩ = some v := fun o v hv => by
        rw [HI.out.bel.cell (p := ⟨gs, o, none⟩) (cell_lt hv)]; exact hv
      have d0 := kp _ _ HSA.out.c0
      have d1 := kp _ _ HSA.out.c1
      have d2 := kp _ _ HSA.out.c2
      have d3 := kp _ _ HSA.out.c3
      have d4 := kp _ _ HSA.out.c4
      have d5 := kp _ _ HSA.out.c5
      have d6 := kp _ _ HSA.out.c6
      have d7 := kp _ _ HSA.out.c7
      have d8 := kp _ _ HSA.out.c8
      obtain ⟨va, hva, pa, ca, rfl, _⟩ := HSA.out.c9
      have d9 := kp _ _ hva
      obtain ⟨na, hna⟩ : ∃ na, na = s.args.length := ⟨_, rfl⟩
      rw [← hna] at d9
      obtain ⟨y6, hy6⟩ : ∃ y6 : ByteArray, y6 = ⟨s.op.toArray⟩ := ⟨_, rfl⟩
      obtain ⟨y8, hy8⟩ : ∃ y8 : ByteArray, y8 = ⟨s.name.toArray⟩ := ⟨_, rfl⟩
      rw [← hy6] at d6
      rw [← hy8] at d8
      have HQ : Hid (F.steps[i]? = some s) := hs
      clear kp hs hsts hva hna hy6 hy8
      have hl9 : (i : Int) < (n : Int) := by omega
      obtain ⟨cd, hcd⟩ : ∃ cd, s.code = cd := ⟨_, rfl⟩
      obtain ⟨lb, hlb⟩ : ∃ lb, s.label = lb := ⟨_, rfl⟩
      have HC : Hid (s.code = cd ∧ s.label = lb) := ⟨hcd, hlb⟩
      rw [hcd] at d0
      rw [hlb] at d7
      obtain ⟨W7, hW7⟩ : ∃ W7, W7 = wr.alloc (.cells #[.int .i64 cd, .int .i64 s.dst, .int .i64 s.a, .int .i64 s.b, .int .i64 s.c, .int .i64 s.n, .string y6, .int .i64 lb, .string y8, .slice pa na ca] 44) := ⟨_, rfl⟩
      have HB7 : Hid (Below wr.heap.size wr W7) := by rw [hW7]; exact al_bel2 _ _
      by_cases h6 : cd = 6
      · subst h6
        cases hlk : labOf (F.steps.take i) lb with
        | none =>
          obtain ⟨w9, q1, q2, q3⟩ := lb_put HI.out HQ.out hcd (by rw [hlb]; exact hlk) HB7.out HSA.out.i1.2.2.2.2.2.2 (by omega)
          rw [hlb] at q1
          obtain ⟨m, _, hm⟩ := HI.out.mp
          have lk := (hm.kept (HB7.out.block _ hm.lt)).look2 kdI und69 (zero3 W7) (key_i lb (by rw [← hlb]; exact HSA.out.i1.2.2.2.2.2.2))
          have e1 : labF (F.steps.take i) (.int .i64 lb) = none := by show (labOf (F.steps.take i) lb).map _ = none; rw [hlk]; rfl
          rw [e1] at lk
          have lk' : (Instr.lookup 69 (.map (some w.heap.size)) (.int .i64 lb) true).run Tryd.prog W7 = .ok (.tuple #[.int .i64 0, .bool false]) W7 := lk
          rw [hW7] at q1 lk'
          have HL9 : Hid (LbI F.steps w w9 (i + 1)) := q2
          clear hm lk e1 hlk hcd hlb q2 q3 hW7 HB7
          go_wp2
          exact ⟨⟨i + 1, by omega, rfl, by go_num, HL9⟩, by simp [intOf]; omega⟩
        | some k =>
          obtain ⟨m, _, hm⟩ := HI.out.mp
          have lk := (hm.kept (HB7.out.block _ hm.lt)).look2 kdI und69 (zero3 W7) (key_i lb (by rw [← hlb]; exact HSA.out.i1.2.2.2.2.2.2))
          have e1 : labF (F.steps.take i) (.int .i64 lb) = some (.int .i64 (k : Int)) := by show (labOf (F.steps.take i) lb).map _ = _; rw [hlk]; rfl
          rw [e1] at lk
          have lk' : (Instr.lookup 69 (.map (some w.heap.size)) (.int .i64 lb) true).run Tryd.prog W7 = .ok (.tuple #[.int .i64 (k : Int), .bool true]) W7 := lk
          rw [hW7] at lk'
          have HE : Hid (G (.returned (.tuple #[.map none, .bool false])) (wr.alloc (.cells #[.int .i64 6, .int .i64 s.dst, .int .i64 s.a, .int .i64 s.b, .int .i64 s.c, .int .i64 s.n, .string y6, .int .i64 lb, .string y8, .slice pa na ca] 44))) := by
            show G _ _
            rw [← HG.out, ← hW7]
            refine ⟨HI.out.bel.trans (HB7.out.mono HI.out.bel.size), .inr ⟨fun hok => ?_, rfl⟩⟩
            have := labsOk_take (i := i + 1) hok
            rw [take_snoc HQ.out] at this
            have := (labsOk_snoc.1 this).2 hcd
            rw [hlb, hlk] at this
            cases this
          clear hm lk e1 hlk hcd hlb hW7 HB7
          go_wp2
          exact HE.out
      · have t6 : (cd == 6) = false := by simpa using h6
        have HL9 : Hid (LbI F.steps w W7 (i + 1)) := lb_skip HI.out HQ.out (by rw [hcd]; exact h6) HB7.out
        rw [hW7] at HL9
        clear hcd hlb hW7 HB7
        go_wp2
        exact ⟨⟨i + 1, by omega, rfl, by go_num, HL9⟩, by simp [intOf]; omega⟩
    · have hin2 : i = n := by omega
      subst hin2
      have HE : Hid (G (.returned (.tuple #[.map (some w.heap.size), .bool true])) wr) := by
        show G _ _
        rw [← HG.out]
        have e : F.steps.take i = F.steps := by rw [HN.out, List.take_length]
        obtain ⟨m, hm1, hm2⟩ := HI.out.mp
        have hok := HI.out.ok
        rw [e] at hm2 hok
        exact ⟨HI.out.bel, .inl ⟨hok, rfl, m, by rw [← HN.out]; exact hm1, hm2⟩⟩
      go_wp2
      exact HE.out
structure CodeAt (w : World) (cb : Nat) (q : Option Addr) (c : Nat) (L : List Mf) : Prop where
  c0 : w.cell? ⟨cb, 0, none⟩ = some (.slice q L.length c)
  le : L.length ≤ c ∧ L.length ≤ 1000000
  fn : L = [] ∨ ∃ g p, q = some ⟨g, p, none⟩ ∧ ∀ j F, L[j]? = some F → FnAt w g (p + j * 4) F
theorem IntsAt.below {w w' : World} {v : Value} {l : List Int} (h : IntsAt w v l) (hb : Below w.heap.size w w') : IntsAt w' v l := by
  obtain ⟨q, c, h1, h2, h3, h4⟩ := h
  refine ⟨q, c, h1, h2, h3, ?_⟩
  rcases h4 with h | ⟨g, o, e, h⟩
  · exact .inl h
  · exact .inr ⟨g, o, e, fun j x hx => by rw [hb.cell (p := ⟨g, o + j, none⟩) (cell_lt (h j x hx))]; exact h j x hx⟩
theorem StepAt.below {w w' : World} {b o : Nat} {s : Ms} (h : StepAt w b o s) (hb : Below w.heap.size w w') : StepAt w' b o s := by
  have kp : ∀ (o : Nat) (v : Value), w.cell? ⟨b, o, none⟩ = some v → w'.cell? ⟨b, o, none⟩ = some v := fun o v hv => by rw [hb.cell (p := ⟨b, o, none⟩) (cell_lt hv)]; exact hv
  obtain ⟨v, h9, h10⟩ := h.c9
  exact ⟨kp _ _ h.c0, kp _ _ h.c1, kp _ _ h.c2, kp _ _ h.c3, kp _ _ h.c4, kp _ _ h.c5, kp _ _ h.c6, kp _ _ h.c7, kp _ _ h.c8, ⟨v, kp _ _ h9, h10.below hb⟩, h.i1, h.i2⟩
theorem FnAt.below {w w' : World} {b o : Nat} {f : Mf} (h : FnAt w b o f) (hb : Below w.heap.size w w') : FnAt w' b o f := by
  have kp : ∀ (o : Nat) (v : Value), w.cell? ⟨b, o, none⟩ = some v → w'.cell? ⟨b, o, none⟩ = some v := fun o v hv => by rw [hb.cell (p := ⟨b, o, none⟩) (cell_lt hv)]; exact hv
  obtain ⟨v, h2, h2'⟩ := h.c2
  obtain ⟨q, c, h3, h3', h3''⟩ := h.c3
  refine ⟨kp _ _ h.c0, kp _ _ h.c1, ⟨v, kp _ _ h2, h2'.below hb⟩, ⟨q, c, kp _ _ h3, h3', ?_⟩, h.i1, h.i2⟩
  rcases h3'' with h | ⟨g, p, e, h⟩
  · exact .inl h
  · exact .inr ⟨g, p, e, fun j s hs => (h j s hs).below hb⟩
theorem CodeAt.below {w w' : World} {cb : Nat} {q : Option Addr} {c : Nat} {L : List Mf} (h : CodeAt w cb q c L) (hb : Below w.heap.size w w') : CodeAt w' cb q c L := by
  refine ⟨by rw [hb.cell (p := ⟨cb, 0, none⟩) (cell_lt h.c0)]; exact h.c0, h.le, ?_⟩
  rcases h.fn with h | ⟨g, p, e, h⟩
  · exact .inl h
  · exact .inr ⟨g, p, e, fun j s hs => (h j s hs).below hb⟩
structure ByI (L : List Mf) (q : Option Addr) (i : Nat) (f : Lit → Option Value) (n : Nat) : Prop where
  no : ∀ nm, f (.string nm) = none → ∀ (j : Nat) (F : Mf), j < i → L[j]? = some F → F.name ≠ nm
  yes : ∀ nm v, f (.string nm) = some v → ∃ (g p j : Nat) (F : Mf), q = some ⟨g, p, none⟩ ∧ j < i ∧ L[j]? = some F ∧ F.name = nm ∧ v = .pointer (some ⟨g, p + j * 4, none⟩)
  le : n ≤ i
  eq : n = i ↔ ((L.take i).map (·.name)).Nodup
def ByP (L : List Mf) (q : Option Addr) (w : World) (e : Ending) (w' : World) : Prop :=
  ∃ f n, e = .returned (.map (some w.heap.size)) ∧ Below w.heap.size w w' ∧ Mp 9 w' w.heap.size f n ∧ ByI L q L.length f n
structure ByJ (L : List Mf) (q : Option Addr) (w wr : World) (i : Nat) : Prop where
  bel : Below w.heap.size w wr
  at' : ∃ f n, Mp 9 wr w.heap.size f n ∧ ByI L q i f n
theorem by_put {L : List Mf} {g p : Nat} {w wr W9 : World} {i : Nat} {F : Mf} (h : ByJ L (some ⟨g, p, none⟩) w wr i) (hs : L[i]? = some F) (hB : Below wr.heap.size wr W9) (hl : F.name.length ≤ 9223372036854775807) (hi : i ≤ 1000000) :
    ∃ w9, (Instr.mapUpdate 62 (.map (some w.heap.size)) (.string ⟨F.name.toArray⟩) (.pointer (some ⟨g, p + i * 4, none⟩))).run Tryd.prog W9 = .ok () w9 ∧ ByJ L (some ⟨g, p, none⟩) w w9 (i + 1) ∧ W9.grownBy w9 (some w.heap.size) := by
  obtain ⟨f, n, hm, hf⟩ := h.at'
  have hlt := hm.lt
  have hle := hf.le
  have hk : keyOf Tryd.prog 9 (.string ⟨F.name.toArray⟩) = some (.string F.name) := by
    have := key_s ⟨F.name.toArray⟩ (by simpa [ByteArray.size] using hl)
    simpa using this
  let g2 : Lit → Option Value := fun y => match y with
    | .string nm => if nm = F.name then some (.pointer (some ⟨g, p + i * 4, none⟩)) else f (.string nm)
    | y => f y
  obtain ⟨w9, h1, h2, h3⟩ := (hm.kept (hB.block _ hlt)).put kdS und62 (by omega) hk trivial (.pointer (some ⟨g, p + i * 4, none⟩)) (g := g2) (by simp [g2]) (fun y hy => by
      cases y with
      | string nm =>
        have : nm ≠ F.name := fun e => hy (by rw [e])
        simp [g2, this]
      | _ => rfl)
  refine ⟨w9, h1, ⟨?_, g2, _, h2, ⟨fun nm hn j G hj hG => ?_, fun nm v hv => ?_, ?_, ?_⟩⟩, h3⟩
  · exact (h.bel.trans (hB.mono h.bel.size)).grown h3 (Nat.le_trans h.bel.size hB.size) (fun k e => by injection e with e; omega)
  · by_cases e : nm = F.name
    · simp [g2, e] at hn
    · simp only [g2, if_neg e] at hn
      by_cases hji : j = i
      · subst hji
        rw [hs] at hG
        injection hG with hG
        subst hG
        exact fun e' => e e'.symm
      · exact hf.no nm hn j G (by omega) hG
  · by_cases e : nm = F.name
    · simp only [g2, if_pos e, Option.some.injEq] at hv
      exact ⟨g, p, i, F, rfl, by omega, hs, e.symm, hv.symm⟩
    · simp only [g2, if_neg e] at hv
      obtain ⟨a1, a2, j, G, a3, a4, a5, a6, a7⟩ := hf.yes nm v hv
      exact ⟨a1, a2, j, G, a3, by omega, a5, a6, a7⟩
  · split <;> omega
  · rw [take_snoc hs, List.map_append, List.nodup_append, ← hf.eq]
    cases hfn : f (.string F.name) with
    | none =>
      simp only [Option.isSome_none, Bool.false_eq_true, if_false]
      constructor
      · intro e
        refine ⟨by omega, by simp, fun a ha b hb e' => ?_⟩
        simp at hb
        obtain ⟨G, hG, rfl⟩ := List.mem_map.1 ha
        obtain ⟨j, hj⟩ := List.getElem?_of_mem hG
        rw [List.getElem?_take] at hj
        split at hj
        · rename_i hji
          exact hf.no _ hfn j G hji hj (by rw [e', hb])
        · cases hj
      · intro e
        omega
    | some v =>
      simp only [Option.isSome_some, if_true]
      constructor
      · intro e; omega
      · rintro ⟨e1, _, e3⟩
        obtain ⟨a1, a2, j, G, a3, a4, a5, a6, a7⟩ := hf.yes _ v hfn
        exact absurd a6 (e3 G.name (List.mem_map.2 ⟨G, List.mem_of_getElem? (i := j) (by rw [List.getElem?_take, if_pos a4]; exact a5), rfl⟩) F.name (by simp))
set_option maxRecDepth 100000 in
set_option maxHeartbeats 4000000 in
theorem byName_any (w : World) (cb : Nat) (q : Option Addr) (c : Nat) (L : List Mf) (h : CodeAt w cb q c L) : Calls Tryd.prog 22 #[ptr cb] w (ByP L q w) := by
  have h0 := h.c0
  have HA : Hid (CodeAt w cb q c L) := h
  obtain ⟨n, hn⟩ : ∃ n, n = L.length := ⟨_, rfl⟩
  have HN : Hid (n = L.length) := hn
  have hn6 : n ≤ 1000000 := by rw [hn]; exact h.le.2
  rw [← hn] at h0
  have hmm : ∀ W : World, (Instr.makeMap 62 (some (.int .i64 (n : Int)))).run Tryd.prog W = .ok (.map (some W.heap.size)) (W.alloc (.map #[] 0)) := fun W => by simp [Instr.makeMap, go_sem]
  have h0' := cell_old (A := .map #[] 0) h0
  generalize hG : ByP L q w = G
  have HG : Hid (ByP L q w = G) := hG
  have HS0 : Hid (ByJ L q w (w.alloc (.map #[] 0)) 0) := ⟨al_bel2 _ _, fun _ => none, 0, Mp.made 9 w, fun nm _ j F hj => by omega, fun nm v hv => (by cases hv), Nat.le_refl _, by simp⟩
  clear hG h hn
  go_enter Tryd.func22, Tryd.ntmps22
  go_wp2_with fail
  obtain ⟨W4, hW4⟩ : ∃ W4, W4 = w.alloc (.map #[] 0) := ⟨_, rfl⟩
  rw [← hW4] at HS0 ⊢
  clear hW4 h0' h0
  go_loopw [16] (fun v wr => ∃ i : Nat, i ≤ n ∧ v = .int .i64 i ∧ Hid (ByJ L q w wr i)) (fun v _ => n - (intOf v).toNat)
  case atStart => exact ⟨0, Nat.zero_le _, rfl, HS0⟩
  case round =>
    obtain ⟨i, hin, rfl, HI⟩ := hrel
    by_cases hlt2 : i < n
    · obtain ⟨F, hF⟩ : ∃ F, L[i]? = some F := ⟨L[i]'(by rw [← HN.out]; exact hlt2), List.getElem?_eq_getElem _⟩
      obtain ⟨g, p, rfl, hfn⟩ : ∃ g p, q = some ⟨g, p, none⟩ ∧ ∀ j F, L[j]? = some F → FnAt w g (p + j * 4) F := by
        rcases HA.out.fn with h | h
        · rw [h] at hF; simp at hF
        · exact h
      have hFA := hfn i F hF
      have k0 : wr.cell? ⟨cb, 0, none⟩ = some (.slice (some ⟨g, p, none⟩) n c) := by rw [HI.out.bel.cell (p := ⟨cb, 0, none⟩) (cell_lt HA.out.c0), HN.out]; exact HA.out.c0
      have k1 : wr.cell? ⟨g, p + i * 4, none⟩ = some (.string ⟨F.name.toArray⟩) := by rw [HI.out.bel.cell (p := ⟨g, p + i * 4, none⟩) (cell_lt hFA.c0)]; exact hFA.c0
      obtain ⟨w9, q1, q2, q3⟩ := by_put HI.out hF (Below.refl wr.heap.size wr).drew hFA.i2.1 (by omega)
      have s0 : w9.cell? ⟨cb, 0, none⟩ = some (.slice (some ⟨g, p, none⟩) n c) := by rw [q2.bel.cell (p := ⟨cb, 0, none⟩) (cell_lt HA.out.c0), HN.out]; exact HA.out.c0
      have s1 : w9.cell? ⟨g, p + i * 4, none⟩ = some (.string ⟨F.name.toArray⟩) := by rw [q2.bel.cell (p := ⟨g, p + i * 4, none⟩) (cell_lt hFA.c0)]; exact hFA.c0
      have HL9 : Hid (ByJ L (some ⟨g, p, none⟩) w w9 (i + 1)) := q2
      obtain ⟨y, hy⟩ : ∃ y : ByteArray, y = ⟨F.name.toArray⟩ := ⟨_, rfl⟩
      rw [← hy] at k1 s1 q1
      have hl9 : (i : Int) < (n : Int) := by omega
      have hnc : n ≤ c := by have := HA.out.le.1; have := HN.out; omega
      clear hF hfn hFA q2 q3 hy
      go_wp2_with fail
      go_region_held3 (fun w' => w'.cell? ⟨cb, 0, none⟩ = some (.slice (some ⟨g, p, none⟩) n c) ∧ w'.cell? ⟨g, p + i * 4, none⟩ = some (.string y))
        (first | (go_keep; done) | ((try dsimp only); refine ⟨?_, ?_⟩ <;> first | (go_keep; done) | (go_simp; done) | (simp [*]; done) | assumption))
        (fail)
      go_wp2
      exact ⟨⟨i + 1, by omega, by go_num, HL9⟩, by simp [intOf]; omega⟩
    · have hin2 : i = n := by omega
      subst hin2
      have HE : Hid (G (.returned (.map (some w.heap.size))) wr) := by
        show G _ _
        rw [← HG.out]
        obtain ⟨f, m, hm1, hm2⟩ := HI.out.at'
        rw [HN.out] at hm2
        exact ⟨f, m, rfl, HI.out.bel, hm1, hm2⟩
      go_wp2
      exact HE.out
end Go.Proofs.YtjmbjpimabnohaaDoor.Mid
