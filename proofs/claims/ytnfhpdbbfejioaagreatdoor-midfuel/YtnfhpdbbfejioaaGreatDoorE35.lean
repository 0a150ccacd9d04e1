/- QI QJ NJ -/
import Derived.Test.YtnfhpdbbfejioaaGreatDoorE34
namespace Go.Proofs.YtnfhpdbbfejioaaGreatDoor.Mid
set_option linter.unusedVariables false
set_option linter.unusedSimpArgs false
set_option maxRecDepth 100000
set_option maxHeartbeats 16000000
open Go Go.RowKit
def fsL (L : List Mf) (nm : By) : Option Mf := L.find? (fun F => F.name == nm)
abbrev mainB : By := [109, 97, 105, 110]
def mainOk (L : List Mf) : Bool := match fsL L mainB with
  | some F => F.params == 0
  | none => false
def namesB (L : List Mf) : Bool := decide ((L.map (·.name)).Nodup)
def zK (L : List Mf) : Bool := decide (L.length ≤ 12) && (namesB L && (mainOk L && (L.all zy && L.all (zV (fsL L)))))
theorem fsL_get : ∀ (L : List Mf) (j : Nat) (F : Mf), (L.map (·.name)).Nodup → L[j]? = some F → fsL L F.name = some F
  | [], j, F, _, h => by simp at h
  | G :: L, 0, F, _, h => by
    simp at h
    subst h
    simp [fsL]
  | G :: L, j + 1, F, hn, h => by
    simp only [List.map_cons, List.nodup_cons] at hn
    simp only [List.getElem?_cons_succ] at h
    have hne : (G.name == F.name) = false := by
      rw [Bool.eq_false_iff]
      intro e
      have e : G.name = F.name := by simpa using e
      exact hn.1 (List.mem_map.2 ⟨F, List.mem_of_getElem? h, e.symm⟩)
    unfold fsL
    rw [List.find?_cons, hne]
    exact fsL_get L j F hn.2 h
theorem fsL_none {L : List Mf} {nm : By} (h : ∀ (j : Nat) (F : Mf), L[j]? = some F → F.name ≠ nm) : fsL L nm = none := by
  unfold fsL
  rw [List.find?_eq_none]
  intro F hF e
  obtain ⟨j, hj⟩ := List.getElem?_of_mem hF
  exact h j F hj (by simpa using e)
theorem ByI.nodup {L : List Mf} {q : Option Addr} {f : Lit → Option Value} {n : Nat} (h : ByI L q L.length f n) (hn : n = L.length) : (L.map (·.name)).Nodup := by
  have := h.eq.1 hn
  rwa [List.take_length] at this
theorem ByI.get {L : List Mf} {q : Option Addr} {f : Lit → Option Value} {n : Nat} (h : ByI L q L.length f n) (hn : n = L.length) (nm : By) : (f (.string nm) = none ∧ fsL L nm = none) ∨ ∃ g p j F, q = some ⟨g, p, none⟩ ∧ L[j]? = some F ∧ F.name = nm ∧ f (.string nm) = some (.pointer (some ⟨g, p + j * 4, none⟩)) ∧ fsL L nm = some F := by
  cases hf : f (.string nm) with
  | none => exact .inl ⟨rfl, fsL_none fun j F hF => h.no nm hf j F (List.getElem?_eq_some_iff.1 hF).1 hF⟩
  | some v =>
    obtain ⟨g, p, j, F, a1, a2, a3, a4, a5⟩ := h.yes nm v hf
    refine .inr ⟨g, p, j, F, a1, a3, a4, by rw [a5], ?_⟩
    rw [← a4]
    exact fsL_get L j F (h.nodup hn) a3
theorem fns_of {w : World} {cb : Nat} {q : Option Addr} {c : Nat} {L : List Mf} {nb : Nat} {f : Lit → Option Value} {n : Nat} (h : CodeAt w cb q c L) (hm : Mp 9 w nb f n) (hf : ByI L q L.length f n) (hn : n = L.length) (hp : L.all zy = true) : FnsE w (fsL L) nb := by
  refine ⟨f, n, hm, fun nm => ?_⟩
  rcases hf.get hn nm with h1 | ⟨g, p, j, F, a1, a2, a3, a4, a5⟩
  · exact .inl h1
  · refine .inr ⟨g, p + j * 4, F, a4, a5, ?_, List.all_eq_true.1 hp F (List.mem_of_getElem? a2)⟩
    rcases h.fn with h2 | ⟨g', p', e, h2⟩
    · rw [h2] at a2; simp at a2
    · rw [a1] at e
      injection e with e
      injection e with e1 e2
      subst e1 e2
      exact h2 j F a2
theorem rv_1 {L : List Mf} (h : ¬ L.length ≤ 12) : zK L = false := by unfold zK; rw [decide_eq_false h]; rfl
theorem rv_2 {L : List Mf} (h : ¬ (L.map (·.name)).Nodup) : zK L = false := by unfold zK namesB; rw [decide_eq_false h]; simp
theorem rv_3 {L : List Mf} (h : mainOk L = false) : zK L = false := by unfold zK; rw [h]; simp
theorem rv_4 {L : List Mf} (h : L.all zy = false) : zK L = false := by unfold zK; rw [h]; simp
theorem rv_5 {L : List Mf} (h1 : L.length ≤ 12) (h2 : (L.map (·.name)).Nodup) (h3 : mainOk L = true) (h4 : L.all zy = true) : zK L = L.all (zV (fsL L)) := by unfold zK namesB; rw [decide_eq_true h1, decide_eq_true h2, h3, h4]; simp
theorem Right_any (w : World) (cb : Nat) (q : Option Addr) (c : Nat) (L : List Mf) (h : CodeAt w cb q c L) (hfm : FmE w) (hmk : MkE w) : Calls Tryz.prog 22 #[ptr cb] w (LkP (zK L) w) := by
  have k0 := h.c0
  have HA : Hid (CodeAt w cb q c L) := h
  have HEn : Hid (FmE w ∧ MkE w) := ⟨hfm, hmk⟩
  obtain ⟨n, hn⟩ : ∃ n, n = L.length := ⟨_, rfl⟩
  have HN : Hid (n = L.length) := hn
  have hn6 : n ≤ 1000000 := by rw [hn]; exact h.le.2
  rw [← hn] at k0
  generalize hG : LkP (zK L) w = G
  have HG : Hid (LkP (zK L) w = G) := hG
  have HFin : Hid (∀ W b, Below w.heap.size w W → zK L = b → G (.returned (.bool b)) W) := fun W b hb hb2 => by rw [← HG.out, hb2]; exact ⟨rfl, hb⟩
  clear h hn hG hfm hmk
  by_cases h1 : 12 < n
  · have HX : Hid (G (.returned (.bool false)) w) := HFin.out w false (Below.refl _ _) (rv_1 (by rw [← HN.out]; omega))
    have t1 : decide ((12 : Int) < (n : Int)) = true := decide_eq_true (by omega)
    go_enter Tryz.func22, Tryz.ntmps22
    go_wp2
    exact HX.out
  have t1 : decide ((12 : Int) < (n : Int)) = false := decide_eq_false (by omega)
  have H12 : Hid (L.length ≤ 12) := by show _ ≤ _; rw [← HN.out]; omega
  have HBy : Hid (Calls Tryz.prog 45 #[ptr cb] w (ByP L q w)) := byName_any w cb q c L HA.out
  clear h1
  go_enter Tryz.func22, Tryz.ntmps22
  go_wp2_with (go_at_call 45; fail)
  refine HBy.out.mono ?_
  rintro e w1 ⟨f, m, rfl, hb1, hmp, hby⟩
  have HB1 : Hid (Below w.heap.size w w1) := hb1
  have HMp : Hid (Mp 9 w1 w.heap.size f m) := hmp
  have HBi : Hid (ByI L q L.length f m) := hby
  have HA1 : Hid (CodeAt w1 cb q c L) := HA.out.below hb1
  have k1 : w1.cell? ⟨cb, 0, none⟩ = some (.slice q n c) := by rw [hb1.cell (p := ⟨cb, 0, none⟩) (zz k0)]; exact k0
  have lk := hmp.look kdS und62 (zero64 w1) (key_s ⟨#[109, 97, 105, 110]⟩ (by decide))
  have hln : ∀ ty, (Builtin.len_ #[107] ty #[.map (some w.heap.size)]).run Tryz.prog w1.drew = .ok (.int .i64 (m : Int)) w1.drew := fun ty => (hmp.kept (show w1.drew.heap[w.heap.size]? = w1.heap[w.heap.size]? from rfl)).len und62 ty
  have hm1 : m ≤ n := by rw [HN.out]; exact hby.le
  clear hb1 hmp hby k0
  by_cases hmn : m < n
  · have HX : Hid (G (.returned (.bool false)) w1.drew) := HFin.out w1.drew false HB1.out.drew (rv_2 (fun hnd => by
      have h1 := HBi.out.eq.2 (by rw [List.take_length]; exact hnd)
      have h2 := HN.out
      omega))
    have t2 : decide ((m : Int) < (n : Int)) = true := decide_eq_true (by omega)
    obtain ⟨mv, hmv⟩ : ∃ mv, mv = (f (Lit.string [109, 97, 105, 110])).getD (.pointer none) := ⟨_, rfl⟩
    have lk' : (Instr.lookup 107 (.map (some w.heap.size)) (.string ⟨#[109, 97, 105, 110]⟩) false).run Tryz.prog w1 = .ok mv w1 := by rw [hmv]; exact lk
    clear lk hmv
    go_wp2_with fail
    go_region
    go_wp2
    exact HX.out
  have hmn2 : m = n := by omega
  have HMN : Hid (m = L.length) := by show _ = _; rw [hmn2]; exact HN.out
  subst hmn2
  have t2 : decide ((m : Int) < (m : Int)) = false := decide_eq_false (by omega)
  rcases HBi.out.get HMN.out mainB with ⟨a1, a2⟩ | ⟨g, p, j, F, rfl, a2, a3, a4, a5⟩
  · have HX : Hid (G (.returned (.bool false)) w1.drew) := HFin.out w1.drew false HB1.out.drew (rv_3 (by unfold mainOk; rw [a2]))
    have lk' : (Instr.lookup 107 (.map (some w.heap.size)) (.string ⟨#[109, 97, 105, 110]⟩) false).run Tryz.prog w1 = .ok (.pointer none) w1 := by rw [lk]; show Result.ok ((f (Lit.string mainB)).getD (.pointer none)) w1 = _; rw [a1]; rfl
    clear lk a1 a2 hmn
    go_wp2_with fail
    go_region
    go_wp2
    exact HX.out
  have lk' : (Instr.lookup 107 (.map (some w.heap.size)) (.string ⟨#[109, 97, 105, 110]⟩) false).run Tryz.prog w1 = .ok (.pointer (some ⟨g, p + j * 4, none⟩)) w1 := by rw [lk]; show Result.ok ((f (Lit.string mainB)).getD (.pointer none)) w1 = _; rw [a4]; rfl
  have HFn : Hid (∀ j F, L[j]? = some F → FnAt w1 g (p + j * 4) F) := by
    rcases HA1.out.fn with h2 | ⟨g', p', e, h2⟩
    · rw [h2] at a2; simp at a2
    · injection e with e
      injection e with e1 e2
      subst e1 e2
      exact h2
  have hpa := (HFn.out j F a2).c1
  obtain ⟨pa, hpa2⟩ : ∃ pa, F.params = pa := ⟨_, rfl⟩
  rw [hpa2] at hpa
  have hpa' : w1.drew.cell? ⟨g, p + j * 4 + 1, none⟩ = some (.int .i64 pa) := hpa
  have k1' : w1.drew.cell? ⟨cb, 0, none⟩ = some (.slice (some ⟨g, p, none⟩) m c) := k1
  have HMo : Hid (mainOk L = (pa == 0)) := by show _ = _; unfold mainOk; rw [a5, ← hpa2]
  clear lk a2 a3 a4 a5 hmn hpa2
  by_cases h0 : pa = 0
  rotate_left
  · have HX : Hid (G (.returned (.bool false)) w1.drew) := HFin.out w1.drew false HB1.out.drew (rv_3 (by rw [HMo.out]; simpa using h0))
    have t3 : (pa != 0) = true := by simpa using h0
    clear h0
    go_wp2_with fail
    go_region
    go_wp2
    exact HX.out
  subst h0
  have HM2 : Hid (mainOk L = true) := by show _ = _; rw [HMo.out]; rfl
  go_wp2_with fail
  go_region
  go_wp2_with fail
  clear hln lk' hpa hpa' k1
  have k2 : w1.drew.cell? ⟨cb, 0, none⟩ = some (.slice (some ⟨g, p, none⟩) m c) := k1'
  obtain ⟨w2, hw2⟩ : ∃ w2, w2 = w1.drew := ⟨_, rfl⟩
  have HB2 : Hid (Below w.heap.size w w2) := by rw [hw2]; exact HB1.out.drew
  have HF2 : Hid (∀ j F, L[j]? = some F → FnAt w2 g (p + j * 4) F) := fun j F h => by rw [hw2]; exact (HFn.out j F h).below (Below.refl _ _).drew
  have HM3 : Hid (Mp 9 w2 w.heap.size f m) := by rw [hw2]; exact HMp.out.kept rfl
  have HA2 : Hid (CodeAt w2 cb (some ⟨g, p, none⟩) c L) := by rw [hw2]; exact HA1.out.below (Below.refl _ _).drew
  rw [← hw2] at k2 ⊢
  clear hw2 k1' HB1 HFn HMp HA1
  have hcc : m ≤ c := by have := HA2.out.le.1; have := HMN.out; omega
  go_loopw [45] (fun v wr => ∃ i : Nat, i ≤ m ∧ v = .int .i64 i ∧ Hid (Below w2.heap.size w2 wr) ∧ Hid ((L.take i).all zy = true)) (fun v _ => m - (intOf v).toNat)
  case atStart => exact ⟨0, Nat.zero_le _, rfl, Below.refl _ _, (by show _ = _; simp)⟩
  case round =>
    obtain ⟨i, hin, rfl, HBr, HAll⟩ := hrel
    have HBw : Hid (Below w.heap.size w wr) := HB2.out.trans (HBr.out.mono HB2.out.size)
    have kr : wr.cell? ⟨cb, 0, none⟩ = some (.slice (some ⟨g, p, none⟩) m c) := by rw [HBr.out.cell (p := ⟨cb, 0, none⟩) (zz k2)]; exact k2
    by_cases hlt2 : i < m
    · obtain ⟨F2, hF2⟩ : ∃ F, L[i]? = some F := ⟨L[i]'(by rw [← HMN.out]; exact hlt2), List.getElem?_eq_getElem _⟩
      have HC : Hid (Calls Tryz.prog 46 #[.pointer (some ⟨g, p + i * 4, none⟩)] wr (LkP (zy F2) wr)) := places_any wr g (p + i * 4) F2 ((HF2.out i F2 hF2).below HBr.out)
      have HS2 : Hid (L[i]? = some F2) := hF2
      have hl9 : (i : Int) < (m : Int) := by omega
      clear hF2
      go_wp2_with (go_at_call 46; fail)
      refine HC.out.mono ?_
      rintro e w3 ⟨rfl, hb3⟩
      have HB3 : Hid (Below wr.heap.size wr w3) := hb3
      clear hb3
      cases hst : zy F2 with
      | true =>
        have HA2 : Hid ((L.take (i + 1)).all zy = true) := by show _ = _; rw [zY HS2.out, List.all_append, HAll.out]; simp [hst]
        have HB4 : Hid (Below w2.heap.size w2 w3) := HBr.out.trans (HB3.out.mono HBr.out.size)
        clear hst
        go_wp2
        exact ⟨⟨i + 1, by omega, by go_num, HB4, HA2⟩, by simp [intOf]; omega⟩
      | false =>
        have HX : Hid (G (.returned (.bool false)) w3) := HFin.out w3 false (HBw.out.trans (HB3.out.mono HBw.out.size)) (rv_4 (all_bad2 HS2.out hst))
        clear hst
        go_wp2
        exact HX.out
    · have hin2 : i = m := by omega
      have HPl : Hid (L.all zy = true) := by
        have := HAll.out
        rwa [hin2, List.take_of_length_le (by rw [HMN.out]; exact Nat.le_refl _)] at this
      have HRv : Hid (zK L = L.all (zV (fsL L))) := rv_5 H12.out (HBi.out.nodup HMN.out) HM2.out HPl.out
      subst hin2
      have HA3 : Hid (CodeAt wr cb (some ⟨g, p, none⟩) c L) := HA2.out.below HBr.out
      have HRt : Hid (RtE wr (fsL L) w.heap.size) := ⟨HEn.out.1.below HBw.out, HEn.out.2.below HBw.out, fns_of HA3.out (HM3.out.kept (HBr.out.block _ HM3.out.lt)) HBi.out HMN.out HPl.out⟩
      obtain ⟨w5, hw5⟩ : ∃ w5, w5 = wr := ⟨_, rfl⟩
      rw [← hw5] at kr HBw HBr HA3 HRt ⊢
      have HF5 : Hid (∀ j F, L[j]? = some F → FnAt w5 g (p + j * 4) F) := fun j F h => (HF2.out j F h).below HBr.out
      clear hw5
      go_wp2_with fail
      go_loopw [62] (fun v wr => ∃ i2 : Nat, i2 ≤ i ∧ v = .int .i64 i2 ∧ Hid (Below w5.heap.size w5 wr) ∧ Hid ((L.take i2).all (zV (fsL L)) = true)) (fun v _ => i - (intOf v).toNat)
      case atStart => exact ⟨0, Nat.zero_le _, rfl, Below.refl _ _, (by show _ = _; simp)⟩
      case round =>
        obtain ⟨i2, hin2, rfl, HBs, HAl2⟩ := hrel
        obtain ⟨w6, hw6⟩ : ∃ w6, w6 = wr := ⟨_, rfl⟩
        rw [← hw6] at HBs ⊢
        clear hw6
        have HBx : Hid (Below w.heap.size w w6) := HBw.out.trans (HBs.out.mono HBw.out.size)
        have ks : w6.cell? ⟨cb, 0, none⟩ = some (.slice (some ⟨g, p, none⟩) i c) := by rw [HBs.out.cell (p := ⟨cb, 0, none⟩) (zz kr)]; exact kr
        by_cases hlt3 : i2 < i
        · obtain ⟨F2, hF2⟩ : ∃ F, L[i2]? = some F := ⟨L[i2]'(by rw [← HMN.out]; exact hlt3), List.getElem?_eq_getElem _⟩
          have HC : Hid (Calls Tryz.prog 47 #[.pointer (some ⟨g, p + i2 * 4, none⟩), .map (some w.heap.size)] w6 (LkP (zV (fsL L) F2) w6)) := right_any w6 (fsL L) g (p + i2 * 4) w.heap.size F2 ((HF5.out i2 F2 hF2).below HBs.out) (HRt.out.below HBs.out)
          have HS2 : Hid (L[i2]? = some F2) := hF2
          have hl9 : (i2 : Int) < (i : Int) := by omega
          clear hF2
          go_wp2_with (go_at_call 47; fail)
          refine HC.out.mono ?_
          rintro e w7 ⟨rfl, hb7⟩
          have HB7 : Hid (Below w6.heap.size w6 w7) := hb7
          clear hb7
          cases hst : zV (fsL L) F2 with
          | true =>
            have HA2 : Hid ((L.take (i2 + 1)).all (zV (fsL L)) = true) := by show _ = _; rw [zY HS2.out, List.all_append, HAl2.out]; simp [hst]
            have HB4 : Hid (Below w5.heap.size w5 w7) := HBs.out.trans (HB7.out.mono HBs.out.size)
            clear hst
            go_wp2
            exact ⟨⟨i2 + 1, by omega, by go_num, HB4, HA2⟩, by simp [intOf]; omega⟩
          | false =>
            have HX : Hid (G (.returned (.bool false)) w7) := HFin.out w7 false (HBx.out.trans (HB7.out.mono HBx.out.size)) (by rw [HRv.out, all_bad2 HS2.out hst])
            clear hst
            go_wp2
            exact HX.out
        · have hin3 : i2 = i := by omega
          have HX : Hid (G (.returned (.bool true)) w6) := HFin.out w6 true HBx.out (by
            have := HAl2.out
            rw [hin3, List.take_of_length_le (by rw [HMN.out]; exact Nat.le_refl _)] at this
            rw [HRv.out, this])
          subst hin3
          go_wp2
          exact HX.out
theorem und73 : Tryz.prog.underlying 112 = some (.map 9 120) := Tryz.underlying112
theorem zero80 (w : World) : (zeroValue 120).run Tryz.prog w = .ok (.agg #[.pointer none, .map none]) w := by kernel_rfl
def Rdy (L : List Mf) (g p : Nat) (wr : World) (lo : Nat) (left : Lit → Bool) (f : Lit → Option Value) : Prop :=
  ∀ nm F, left (.string nm) = false → fsL L nm = some F → ∃ j mb k, L[j]? = some F ∧ f (.string nm) = some (rtV g (p + j * 4) mb) ∧ Mp 3 wr mb (labF F.steps) k ∧ lo < mb
structure RoI (L : List Mf) (g p : Nat) (w wr : World) (R r : Nat) (left : Lit → Bool) (cnt : Nat) : Prop where
  bel : Below w.heap.size w wr
  mp : ∃ f m, Mp 9 wr R f m ∧ m + cnt ≤ L.length ∧ Rdy L g p wr r left f
def RoP (L : List Mf) (g p : Nat) (w : World) (e : Ending) (w' : World) : Prop := ∃ f m, e = .returned (.map (some w.heap.size)) ∧ Below w.heap.size w w' ∧ Mp 9 w' w.heap.size f m ∧ ∀ nm F, fsL L nm = some F → ∃ j mb k, L[j]? = some F ∧ f (.string nm) = some (rtV g (p + j * 4) mb) ∧ Mp 3 w' mb (labF F.steps) k
theorem inv9 (key : Value) (kl : Lit) (h : keyOf Tryz.prog 9 key = some kl) : ∃ x : ByteArray, key = .string x := by
  cases key <;> simp [keyOf, Tryz.underlying9, mapKey] at h
  exact ⟨_, rfl⟩
theorem inv9' {x : ByteArray} {kl : Lit} (h : keyOf Tryz.prog 9 (.string x) = some kl) : kl = .string x.data.toList := by
  simp [keyOf, Tryz.underlying9, mapKey] at h
  exact h.2.symm
theorem invV9 (v : Value) (y : DataW Value × List MemPlace) (h : Rv v = some y) : ∃ c : Value, v = (fun v => v) c := ⟨v, rfl⟩
theorem ro_next {L : List Mf} {g p : Nat} {w wr w1 w2 : World} {R r : Nat} {left : Lit → Bool} {cnt cnt1 : Nat} {nm : By} {F : Mf} {j k : Nat} (h : RoI L g p w wr R r left cnt) (hR : R = w.heap.size) (hr : R < r) (hrw : r < wr.heap.size) (hg : wr.grownBy w1 (some r)) (hs1 : w1.heap.size = wr.heap.size) (hb : Below w1.heap.size w1 w2) (hF : fsL L nm = some F) (hj : L[j]? = some F) (hnm : nm.length ≤ 9223372036854775807) (hL : L.length ≤ 12) (hc : cnt1 < cnt)
    (hm : Mp 3 w2 w1.heap.size (labF F.steps) k) :
    ∃ w9, (Instr.mapUpdate 112 (.map (some R)) (.string ⟨nm.toArray⟩) (rtV g (p + j * 4) w1.heap.size)).run Tryz.prog w2 = .ok () w9 ∧ RoI L g p w w9 R r (fun z => left z && !z.sameKey (.string nm)) cnt1 ∧ w2.grownBy w9 (some R) := by
  obtain ⟨f, m, h1, h2, h3⟩ := h.mp
  have hRl := h1.lt
  have hm1 : Mp 9 w2 R f m := (h1.kept (hg.block R hRl (by simp; omega))).kept (hb.block R (by omega))
  have hk : keyOf Tryz.prog 9 (.string ⟨nm.toArray⟩) = some (.string nm) := by
    have := key_s ⟨nm.toArray⟩ (by simpa [ByteArray.size] using hnm)
    simpa using this
  let g2 : Lit → Option Value := fun y => match y with
    | .string nm' => if nm' = nm then some (rtV g (p + j * 4) w1.heap.size) else f (.string nm')
    | y => f y
  obtain ⟨w9, q1, q2, q3⟩ := hm1.put kdS und73 (by omega) hk trivial (rtV g (p + j * 4) w1.heap.size) (g := g2) (by simp [g2]) (fun y hy => by
      cases y with
      | string nm' =>
        have : nm' ≠ nm := fun e => hy (by rw [e])
        simp [g2, this]
      | _ => rfl)
  have hbw : Below w.heap.size w w1 := ⟨hg.os.trans h.bel.os, hg.tape.trans h.bel.tape, hg.output.trans h.bel.output, Nat.le_trans h.bel.size hg.size, fun b hb => by rw [hg.block b (Nat.lt_of_lt_of_le hb h.bel.size) (by simp; omega)]; exact h.bel.block b hb⟩
  refine ⟨w9, q1, ⟨?_, g2, _, q2, by split <;> omega, ?_⟩, q3⟩
  · exact (hbw.trans (hb.mono hbw.size)).grown q3 (Nat.le_trans hbw.size hb.size) (fun k e => by injection e with e; omega)
  · intro nm' F' hl hF'
    have kp : ∀ mb, r < mb → mb < w2.heap.size → w9.heap[mb]? = w2.heap[mb]? := fun mb h1 h2 => q3.block mb h2 (by simp; omega)
    by_cases e : nm' = nm
    · subst e
      rw [hF] at hF'
      injection hF' with hF'
      subst hF'
      exact ⟨j, w1.heap.size, k, hj, by simp [g2], hm.kept (kp _ (by omega) hm.lt), by omega⟩
    · have hl' : left (.string nm') = false := by
        have e2 : (Lit.string nm').sameKey (.string nm) = false := Maps.sameKey_ne (fun e3 => e (by injection e3))
        have hl : (left (.string nm') && !(Lit.string nm').sameKey (.string nm)) = false := hl
        rw [e2] at hl
        simpa using hl
      obtain ⟨j', mb, k', a1, a2, a3, a4⟩ := h3 nm' F' hl' hF'
      have hmb := a3.lt
      refine ⟨j', mb, k', a1, by simp [g2, e, a2], ?_, a4⟩
      have b1 : w1.heap[mb]? = wr.heap[mb]? := hg.block mb hmb (by simp; omega)
      have b2 : w2.heap[mb]? = w1.heap[mb]? := hb.block mb (by omega)
      exact ((a3.kept b1).kept b2).kept (kp mb a4 (by have := hb.size; omega))
theorem routines_any (w : World) (cb g p c : Nat) (L : List Mf) (h : CodeAt w cb (some ⟨g, p, none⟩) c L) (hn : (L.map (·.name)).Nodup) (hL : L.length ≤ 12) (hlab : ∀ F ∈ L, qA F.steps) : Calls Tryz.prog 48 #[ptr cb] w (RoP L g p w) := by
  have k0 := h.c0
  have HA : Hid (CodeAt w cb (some ⟨g, p, none⟩) c L) := h
  obtain ⟨n, hn1⟩ : ∃ n, n = L.length := ⟨_, rfl⟩
  have HN : Hid (n = L.length) := hn1
  have hn6 : n ≤ 12 := by rw [hn1]; exact hL
  rw [← hn1] at k0
  have hmm : ∀ W : World, (Instr.makeMap 112 (some (.int .i64 (n : Int)))).run Tryz.prog W = .ok (.map (some W.heap.size)) (W.alloc (.map #[] 0)) := fun W => by simp [Instr.makeMap, go_sem]
  generalize hG : RoP L g p w = G
  have HG : Hid (RoP L g p w = G) := hG
  have HLb : Hid (∀ F ∈ L, qA F.steps) := hlab
  have HNd : Hid ((L.map (·.name)).Nodup) := hn
  have HL12 : Hid (L.length ≤ 12) := hL
  have HBy : Hid (Calls Tryz.prog 45 #[ptr cb] (w.alloc (.map #[] 0)) (ByP L (some ⟨g, p, none⟩) (w.alloc (.map #[] 0)))) := byName_any _ cb _ c L (h.below (qC _ _))
  clear hG h hn1 hn hL hlab
  go_enter Tryz.func48, Tryz.ntmps48
  go_wp2_with (go_at_call 45; fail)
  refine HBy.out.mono ?_
  rintro e w1 ⟨f, m, rfl, hb1, hmp, hby⟩
  have hsz : (w.alloc (.map #[] 0)).heap.size = w.heap.size + 1 := by simp
  rw [hsz] at hmp hb1
  have HBi : Hid (ByI L (some ⟨g, p, none⟩) L.length f m) := hby
  have HMN : Hid (m = L.length) := by
    show _ = _
    exact hby.eq.2 (by rw [List.take_length]; exact HNd.out)
  have HB1 : Hid (Below w.heap.size w w1 ∧ w.heap.size + 1 < w1.heap.size ∧ Mp 9 w1 w.heap.size (fun _ => none) 0) := ⟨(qC w (.map #[] 0)).trans (hb1.mono (by omega)), hmp.lt, (Mp.made 9 w).kept (hb1.block _ (by omega))⟩
  obtain ⟨D, hown, hDs, hDk⟩ := hmp
  have HD : Hid (∀ kl, (∀ z, D.atKey kl (.held z) = .held ((f kl).getD z)) ∧ Maps.has D kl = (f kl).isSome) := hDk
  have HDs : Hid (Maps.size D = m) := hDs
  clear hb1 hby hDk hDs hmm k0
  have hq : (w.alloc (.map #[] 0)).heap.size = w.heap.size + 1 := hsz
  rw [hq]
  clear hq hsz
  go_wp2_with (first
    | (at_range; refine wpList_range_own _ rfl _ 107 rfl 9 109 kdS und62 _ (w.heap.size + 1) m D rfl hown ?_; intro w0 hrg0 hg0 hs0)
    | go_in)
  go_frame
  obtain ⟨r, hr⟩ : ∃ r, r = w1.heap.size := ⟨_, rfl⟩
  rw [← hr] at hrg0 ⊢
  have HR : Hid (w.heap.size + 1 < r) := by show _ < _; rw [hr]; exact HB1.out.2.1
  have HS0 : Hid (RoI L g p w w0 w.heap.size r (Maps.has D) (Maps.size D)) := by
    refine ⟨?_, fun _ => none, 0, HB1.out.2.2.kept (hg0.block _ HB1.out.2.2.lt (by simp)), by rw [HDs.out, HMN.out]; omega, ?_⟩
    · exact ⟨hg0.os.trans HB1.out.1.os, hg0.tape.trans HB1.out.1.tape, hg0.output.trans HB1.out.1.output, Nat.le_trans HB1.out.1.size hg0.size, fun b hb => by rw [hg0.block b (Nat.lt_of_lt_of_le hb HB1.out.1.size) (by simp)]; exact HB1.out.1.block b hb⟩
    · intro nm F hl hF
      rw [(HD.out _).2] at hl
      rcases HBi.out.get HMN.out nm with ⟨_, a2⟩ | ⟨_, _, _, _, _, _, _, a4, _⟩
      · rw [a2] at hF; cases hF
      · rw [a4] at hl; cases hl
  clear hg0 hs0 hown hr
  go_loopw [17] (fun _ wr => ∃ (left : Lit → Bool) (cnt : Nat), wr.ranges Tryz.prog 9 Rv (w.heap.size + 1) r m D left cnt ∧ Hid (RoI L g p w wr w.heap.size r left cnt)) (fun _ wr => wr.rangeLeft (w.heap.size + 1) r)
  case atStart => exact ⟨_, _, hrg0, HS0⟩
  case round =>
    obtain ⟨left, cnt, hrg, HI⟩ := hrel
    go_wp2_with (first
      | (at_next; refine wpList_next_ranges _ rfl _ rfl 9 kdS Rv (fun y => Value.string y) (fun v => v) inv9 invV9 (w.heap.size + 1) r m D left cnt rfl hrg ?_ ?_)
      | go_in)
    · intro hc0 hl0
      have HX : Hid (G (.returned (.map (some w.heap.size))) wr) := by
        show G _ _
        rw [← HG.out]
        obtain ⟨f', m', a1, _, a3⟩ := HI.out.mp
        refine ⟨f', m', rfl, HI.out.bel, a1, fun nm F hF => ?_⟩
        obtain ⟨j, mb, k, b1, b2, b3, _⟩ := a3 nm F (hl0 _) hF
        exact ⟨j, mb, k, b1, b2, b3⟩
      clear hrg hc0 hl0
      go_wp2
      exact HX.out
    · intro x v kl y1 y2 w2 cnt1 hkey hlk hv hat hrg1 hlt hg1 hs1 hen
      have ekl := inv9' hkey
      subst ekl
      obtain ⟨j, F, a2, a3, a5, rfl⟩ : ∃ j F, L[j]? = some F ∧ F.name = x.data.toList ∧ fsL L x.data.toList = some F ∧ v = .pointer (some ⟨g, p + j * 4, none⟩) := by
        have e1 : ∀ z, (f (.string x.data.toList)).getD z = v := fun z => by
          have h1 := (HD.out (.string x.data.toList)).1 z
          rw [hat] at h1
          have h2 : y1 = .held v := by
            unfold Rv at hv
            injection hv with hv
            injection hv with hv _
            exact hv.symm
          rw [h2] at h1
          injection h1 with h1
          exact h1.symm
        rcases HBi.out.get HMN.out x.data.toList with ⟨b1, _⟩ | ⟨g', p', j, F, b1, b2, b3, b4, b5⟩
        · have h1 := e1 (.int .i64 0)
          have h2 := e1 (.int .i64 1)
          rw [b1] at h1 h2
          rw [← h2] at h1
          have h1 : Value.int .i64 0 = .int .i64 1 := h1
          injection h1 with _ h1
          cases h1
        · injection b1 with b1
          injection b1 with b1 b1'
          subst b1 b1'
          refine ⟨j, F, b2, b3, b5, ?_⟩
          rw [← e1 (.int .i64 0), b4]
          rfl
      have hF2 : FnAt w2 g (p + j * 4) F := by
        have hw : FnAt wr g (p + j * 4) F := by
          rcases HA.out.fn with h2 | ⟨g', p', e, h2⟩
          · rw [h2] at a2; simp at a2
          · injection e with e
            injection e with e1 e2
            subst e1 e2
            exact (h2 j F a2).below HI.out.bel
        have hbw : Below w.heap.size w w2 := ⟨hg1.os.trans HI.out.bel.os, hg1.tape.trans HI.out.bel.tape, hg1.output.trans HI.out.bel.output, Nat.le_trans HI.out.bel.size hg1.size, fun b hb => by rw [hg1.block b (Nat.lt_of_lt_of_le hb HI.out.bel.size) (by have := HR.out; simp; omega)]; exact HI.out.bel.block b hb⟩
        rcases HA.out.fn with h2 | ⟨g', p', e, h2⟩
        · rw [h2] at a2; simp at a2
        · injection e with e
          injection e with e1 e2
          subst e1 e2
          exact (h2 j F a2).below hbw
      have HC : Hid (Calls Tryz.prog 76 #[.pointer (some ⟨g, p + j * 4, none⟩)] w2 (LbP F.steps w2)) := labels_any w2 g (p + j * 4) F hF2
      have HOk : Hid (qA F.steps) := HLb.out F (List.mem_of_getElem? a2)
      have HQ : Hid (L[j]? = some F ∧ fsL L x.data.toList = some F ∧ wr.grownBy w2 (some r) ∧ w2.heap.size = wr.heap.size ∧ cnt1 < cnt ∧ r < wr.heap.size ∧ x.data.toList.length ≤ 9223372036854775807 ∧ wr.rangeLeft (w.heap.size + 1) r = cnt ∧ w2.ranges Tryz.prog 9 Rv (w.heap.size + 1) r m D (fun z => left z && !z.sameKey (.string x.data.toList)) cnt1) := ⟨a2, a5, hg1, hs1, hlt, hrg.lt, by rw [← a3]; exact hF2.i2.1, hrg.left_eq, hrg1⟩
      clear a2 a3 a5 hF2 hkey hlk hv hat hrg1 hlt hg1 hs1 hrg
      go_wp2_with (go_at_call 76; fail)
      refine HC.out.mono ?_
      rintro e w3 ⟨hb3, ⟨_, rfl, k, _, hmp3⟩ | ⟨hno, _⟩⟩
      rotate_left
      · exact absurd HOk.out hno
      obtain ⟨w9, q1, q2, q3⟩ := ro_next HI.out rfl (by have := HR.out; omega) HQ.out.2.2.2.2.2.1 HQ.out.2.2.1 HQ.out.2.2.2.1 hb3 HQ.out.2.1 HQ.out.1 HQ.out.2.2.2.2.2.2.1 HL12.out HQ.out.2.2.2.2.1 hmp3
      have q1' : (Instr.mapUpdate 112 (.map (some w.heap.size)) (.string x) (.agg #[.pointer (some ⟨g, p + j * 4, none⟩), .map (some w2.heap.size)])).run Tryz.prog w3 = .ok () w9 := q1
      have HL9 : Hid (RoI L g p w w9 w.heap.size r (fun z => left z && !z.sameKey (.string x.data.toList)) cnt1) := q2
      have HRg : Hid (w9.ranges Tryz.prog 9 Rv (w.heap.size + 1) r m D (fun z => left z && !z.sameKey (.string x.data.toList)) cnt1) := by
        have h1 := HQ.out.2.2.2.2.2.2.2.2
        have hgb : w2.grownBy w3 none := ⟨hb3.os, hb3.tape, hb3.output, hb3.size, fun i hi _ => hb3.block i hi⟩
        exact (h1.kept hgb (by simp) (by simp)).kept q3 (by simp) (by have := HR.out; simp; omega)
      clear q1 q2 q3 hb3 hmp3
      go_wp2
      refine ⟨⟨_, _, HRg.out, HL9⟩, ?_⟩
      rw [HRg.out.left_eq, HQ.out.2.2.2.2.2.2.2.1]
      exact HQ.out.2.2.2.2.1
abbrev Rk8 (c : Int) : Prop := c = 1 ∨ c = 2 ∨ c = 3 ∨ c = 7 ∨ c = 9 ∨ c = 10 ∨ c = 11 ∨ c = 14
theorem rk_any {X : Mx} (hX : MxOk X) (hF : FnsOk X) {F : Mf} {s : Ms} {b o : Nat} (hst : StepAt X.wc b o s) (hok : StOk X.fs F s) (hc : Rk8 s.code) {g d ob : Nat} (hC : CallC X g) {w : World} {r : Rs} {own : List Vl} (hs : Sm X.w0 X.P X.fv w r d) (ho : OwM w ob r.ab own) (hl : own.length = F.types.length) (hk : own.length ≤ 1000000) (hne : ∀ out, zp X.fs g d s own r.s ≠ .error (99, out)) :
    Calls Tryz.prog 82 (rkA X b o ob own.length) w (RkP X w r d (zp X.fs g d s own r.s)) := by
  rcases hc with hc | hc | hc | hc | hc | hc | hc | hc
  · exact rk_const hX hst hc hs
  · exact rk_copy hX hst hc hs ho (by rw [hl]; exact hok.a (by omega)) hk
  · exact rk_two hX hst hc hs ho (by rw [hl]; exact hok.a (by omega)) (by rw [hl]; exact hok.b (by omega)) hk
  · exact rk_call hX hF hst hok hc hC hs ho hl hk hne
  · exact rk_new hX hst hc hs ho (by rw [hl]; exact hok.a (by omega)) hk
  · exact rk_len hX hst hc hs ho (by rw [hl]; exact hok.a (by omega)) hk
  · exact rk_load hX hst hc hs ho (by rw [hl]; exact hok.a (by omega)) (by rw [hl]; exact hok.b (by omega)) hk
  · exact rk_input hX hst hc hs
def fuelW (P : Nat) (w : World) : Nat := match w.cell? ⟨P, 3, none⟩ with | some (.int _ n) => n.toNat | _ => 0
theorem fuelW_is {w0 : World} {P : Nat} {fv : Value} {w : World} {r : Rs} {d : Nat} (h : Sm w0 P fv w r d) : fuelW P w = r.s.fuel.toNat := by
  have c3 : w.cell? ⟨P, 3, none⟩ = some (.int .i64 r.s.fuel) := z_ (i := 3) h.pb rfl
  unfold fuelW
  rw [c3]
structure LpI (X : Mx) (fb fo mb : Nat) (F : Mf) (w : World) (r0 : Rs) (d ob g : Nat) (o : List Vl) (wr : World) (k : Nat) : Prop where
  at' : ∃ (g' : Nat) (r' : Rs) (o' : List Vl), Sm X.w0 X.P X.fv wr r' (d + 1) ∧ Fz X.P (fun b => b = ob) w r0 wr r' ∧ OwM wr ob r'.ab o' ∧ o'.length = F.types.length ∧ g' ≤ g ∧ k < F.steps.length ∧ goN X.fs g (d + 1) F 0 o r0.s = goN X.fs g' (d + 1) F k o' r'.s
  box : wr.heap[w.heap.size]? = some (.cells #[.pointer (some ⟨fb, fo, none⟩), .map (some mb)] 120)
theorem next_lt {X : Mx} {F : Mf} {fb fo mb : Nat} (h : Rout X F fb fo mb) {k : Nat} {s : Ms} (hs : F.steps[k]? = some s) (h8 : s.code ≠ 8) (h4 : s.code ≠ 4) : k + 1 < F.steps.length := by
  obtain ⟨t, h1, h2⟩ := h.last
  have hk := (List.getElem?_eq_some_iff.1 hs).1
  rcases Nat.lt_or_ge (k + 1) F.steps.length with h' | h'
  · exact h'
  · have : k = F.steps.length - 1 := by omega
    rw [this, h1] at hs
    injection hs with hs
    subst hs
    omega
theorem lab_lt {X : Mx} {F : Mf} {fb fo mb : Nat} (h : Rout X F fb fo mb) {x : Int} {k : Nat} (hk : zJ F.steps x = some k) : k + 1 < F.steps.length := by
  unfold zJ at hk
  rw [List.findIdx?_eq_some_iff_getElem] at hk
  obtain ⟨h1, h2, _⟩ := hk
  refine next_lt h (List.getElem?_eq_getElem h1) ?_ ?_
  all_goals
    intro e
    simp [e] at h2
theorem gas_pos {X : Mx} {F : Mf} {d k : Nat} {o : List Vl} {s : Sg} {g' : Nat} (h : ∀ out, goN X.fs g' d F k o s ≠ .error (99, out)) : ∃ g2, g' = g2 + 1 := by
  cases g' with
  | zero => exact absurd (goN_0 X.fs d F k o s) (h _)
  | succ g2 => exact ⟨g2, rfl⟩
def stepG (fs : By → Option Mf) (g d : Nat) (F : Mf) (k : Nat) (o : List Vl) (s : Ms) : Go1 Int :=
  if s.code = 8 then gp (pl o s.a).1
  else if s.code = 4 then goN fs g d F ((zJ F.steps s.label).getD 0 + 1) o
  else if s.code = 5 then (if (pl o s.a).1 = 0 then goN fs g d F ((zJ F.steps s.label).getD 0 + 1) o else goN fs g d F (k + 1) o)
  else if s.code = 13 then gb (tellG (pl o s.a).1) fun _ => goN fs g d F (k + 1) o
  else if s.code = 12 then gb (putG (pl o s.a).2 (pl o s.b).1 (pl o s.c).1) fun _ => goN fs g d F (k + 1) o
  else if s.code = 6 then goN fs g d F (k + 1) o
  else gb (zp fs g d s o) fun v => goN fs g d F (k + 1) (o.set s.dst.toNat v)
theorem goN_s {fs : By → Option Mf} {g d : Nat} {F : Mf} {k : Nat} {o : List Vl} {s : Ms} (h : F.steps[k]? = some s) : goN fs (g + 1) d F k o = gb pay fun _ => stepG fs g d F k o s := by
  rw [goN_1, h]
  rfl
theorem sg_8 {fs : By → Option Mf} {g d : Nat} {F : Mf} {k : Nat} {o : List Vl} {s : Ms} (h : s.code = 8) : stepG fs g d F k o s = gp (pl o s.a).1 := by unfold stepG; simp [h]
theorem sg_4 {fs : By → Option Mf} {g d : Nat} {F : Mf} {k : Nat} {o : List Vl} {s : Ms} (h : s.code = 4) : stepG fs g d F k o s = goN fs g d F ((zJ F.steps s.label).getD 0 + 1) o := by unfold stepG; simp [h]
theorem sg_5 {fs : By → Option Mf} {g d : Nat} {F : Mf} {k : Nat} {o : List Vl} {s : Ms} (h : s.code = 5) : stepG fs g d F k o s = (if (pl o s.a).1 = 0 then goN fs g d F ((zJ F.steps s.label).getD 0 + 1) o else goN fs g d F (k + 1) o) := by unfold stepG; simp [h]
theorem sg_13 {fs : By → Option Mf} {g d : Nat} {F : Mf} {k : Nat} {o : List Vl} {s : Ms} (h : s.code = 13) : stepG fs g d F k o s = gb (tellG (pl o s.a).1) fun _ => goN fs g d F (k + 1) o := by unfold stepG; simp [h]
theorem sg_12 {fs : By → Option Mf} {g d : Nat} {F : Mf} {k : Nat} {o : List Vl} {s : Ms} (h : s.code = 12) : stepG fs g d F k o s = gb (putG (pl o s.a).2 (pl o s.b).1 (pl o s.c).1) fun _ => goN fs g d F (k + 1) o := by unfold stepG; simp [h]
theorem sg_6 {fs : By → Option Mf} {g d : Nat} {F : Mf} {k : Nat} {o : List Vl} {s : Ms} (h : s.code = 6) : stepG fs g d F k o s = goN fs g d F (k + 1) o := by unfold stepG; simp [h]
theorem sg_r {fs : By → Option Mf} {g d : Nat} {F : Mf} {k : Nat} {o : List Vl} {s : Ms} (h : Rk8 s.code) : stepG fs g d F k o s = gb (zp fs g d s o) fun v => goN fs g d F (k + 1) (o.set s.dst.toNat v) := by
  unfold stepG
  rw [if_neg (by omega), if_neg (by omega), if_neg (by omega), if_neg (by omega), if_neg (by omega), if_neg (by omega)]
theorem tell_er {n : Int} {s : Sg} (h : 200 ≤ s.out.length) : tellG n s = .error (7, s.out) := if_pos h
theorem tell_ok {n : Int} {s : Sg} (h : s.out.length < 200) : tellG n s = .ok ((), { s with out := s.out ++ [n] }) := if_neg (by omega)
theorem notX120 {w0 : World} {P : Nat} {fv : Value} {w : World} {r : Rs} {d b : Nat} {cs : Array Value} (h : w.heap[b]? = some (.cells cs 120)) (hs : Sm w0 P fv w r d) : ¬ Xs P r b := by
  rintro (rfl | hx | hx)
  · have := hs.pb; rw [h] at this; injection this with this; injection this with _ e; cases e
  · obtain ⟨p, hp, rfl⟩ := List.mem_map.1 hx
    obtain ⟨i, hi⟩ := List.getElem?_of_mem hp
    obtain ⟨l, _, _, _, a4⟩ := hs.arr i p.1 p.2 hi
    rw [h] at a4; injection a4 with a4; injection a4 with _ e; cases e
  · rcases hs.out.2 with ⟨hv, _⟩ | ⟨g, cap, cur, hv, hb, hg, _⟩
    · rw [hv] at hx; cases hx
    · rw [hv] at hx
      have : g = b := by injection hx
      subst this
      rw [hg] at h; injection h with h; injection h with _ e; cases e
theorem box_on {X : Mx} {w w2 : World} {r r2 : Rs} {d ob B : Nat} {cs : Array Value} (h : w.heap[B]? = some (.cells cs 120)) (hs : Sm X.w0 X.P X.fv w r d) (hB : B ≠ ob) (hf : Fz X.P (fun b => b = ob) w r w2 r2) : w2.heap[B]? = some (.cells cs 120) := by
  rw [hf.blk B (Array.getElem?_eq_some_iff.1 h).1 (notX120 h hs) hB]
  exact h
def Fl {α : Type} (x : Go1 α) : Prop := ∀ s a s1, x s = .ok (a, s1) → s1.fuel ≤ s.fuel
theorem fl_gp {α : Type} (a : α) : Fl (gp a) := fun s b s1 h => by injection h with h; injection h with _ h; subst h; exact Int.le_refl _
theorem fl_gt {α : Type} (k : Int) : Fl (gt k : Go1 α) := fun s b s1 h => by cases h
theorem fl_gb {α β : Type} {x : Go1 α} {f : α → Go1 β} (hx : Fl x) (hf : ∀ a, Fl (f a)) : Fl (gb x f) := fun s b s1 h => by
  unfold gb at h
  cases e : x s with
  | error k => rw [e] at h; cases h
  | ok p =>
    obtain ⟨a, s2⟩ := p
    rw [e] at h
    have h1 := hx s a s2 e
    have h2 := hf a s2 b s1 h
    omega
theorem fl_pay : Fl pay := fun s a s1 h => by
  unfold pay at h
  split at h
  · cases h
  · injection h with h; injection h with _ h; subst h; show s.fuel - 1 ≤ s.fuel; omega
theorem fl_tell (n : Int) : Fl (tellG n) := fun s a s1 h => by
  unfold tellG at h
  split at h
  · cases h
  · injection h with h; injection h with _ h; subst h; exact Int.le_refl _
theorem fl_take : Fl takeG := fun s a s1 h => by injection h with h; injection h with _ h; subst h; exact Int.le_refl _
theorem fl_new (n : Int) : Fl (newG n) := fun s a s1 h => by
  unfold newG at h
  split at h
  · cases h
  · injection h with h; injection h with _ h; subst h; exact Int.le_refl _
theorem fl_len (q : Option Nat) : Fl (lenG q) := fun s a s1 h => by injection h with h; injection h with _ h; subst h; exact Int.le_refl _
theorem fl_item (q : Option Nat) (i : Int) : Fl (itemG q i) := fun s a s1 h => by
  unfold itemG at h
  split at h
  · cases h
  · injection h with h; injection h with _ h; subst h; exact Int.le_refl _
theorem fl_put (q : Option Nat) (i n : Int) : Fl (putG q i n) := fun s a s1 h => by
  unfold putG at h
  split at h
  · cases h
  · injection h with h; injection h with _ h; subst h; exact Int.le_refl _
theorem fl_both (op : By) (a b : Int) : Fl (bothG op a b) := by
  unfold bothG
  split
  · exact fl_gt _
  · exact fl_gp _
theorem fl_reck {fs : By → Option Mf} {g : Nat} (ih : ∀ d F k o, Fl (goN fs g d F k o)) (d : Nat) (s : Ms) (o : List Vl) : Fl (zp fs g d s o) := by
  unfold zp
  split
  · exact fl_gp _
  split
  · exact fl_gb (fl_both _ _ _) (fun _ => fl_gp _)
  split
  · split
    · exact fl_gt _
    · split
      · exact fl_gt _
      · exact fl_gb (ih _ _ _ _) (fun _ => fl_gp _)
  split
  · exact fl_new _
  split
  · exact fl_gb (fl_len _) (fun _ => fl_gp _)
  split
  · exact fl_gb (fl_item _ _) (fun _ => fl_gp _)
  split
  · exact fl_gb fl_take (fun _ => fl_gp _)
  · exact fl_gp _
theorem fl_go (fs : By → Option Mf) : ∀ g d F k o, Fl (goN fs g d F k o)
  | 0 => fun d F k o => fl_gt _
  | g + 1 => fun d F k o => by
    have ih := fl_go fs g
    rw [goN_1]
    refine fl_gb fl_pay (fun _ => ?_)
    split
    · exact fl_gt _
    · split
      · exact fl_gp _
      split
      · exact ih _ _ _ _
      split
      · split <;> exact ih _ _ _ _
      split
      · exact fl_gb (fl_tell _) (fun _ => ih _ _ _ _)
      split
      · exact fl_gb (fl_put _ _ _) (fun _ => ih _ _ _ _)
      split
      · exact ih _ _ _ _
      · exact fl_gb (fl_reck ih _ _ _) (fun _ => ih _ _ _ _)
end Go.Proofs.YtnfhpdbbfejioaaGreatDoor.Mid
