/- PJ PL -/
import Derived.Test.YtnfhpdbbfejioaaGreatDoorE41
namespace Go.Proofs.YtnfhpdbbfejioaaGreatDoor.Mid
set_option linter.unusedVariables false
set_option linter.unusedSimpArgs false
set_option maxRecDepth 100000
set_option maxHeartbeats 16000000
open Go Go.RowKit
def IntsRw (w : World) (v : Value) (l : List Int) : Prop :=
  ∃ q c, v = .slice q l.length c ∧ l.length ≤ c ∧ (∀ x ∈ l, I64 x) ∧ (l = [] ∨ ∃ g o, q = some ⟨g, o, none⟩ ∧ ∀ j x, l[j]? = some x → w.cell? ⟨g, o + j, none⟩ = some (.int .i64 x))
structure StRw (w : World) (b o : Nat) (s : Ms) : Prop where
  c0 : w.cell? ⟨b, o, none⟩ = some (.int .i64 s.code)
  c1 : w.cell? ⟨b, o + 1, none⟩ = some (.int .i64 s.dst)
  c2 : w.cell? ⟨b, o + 2, none⟩ = some (.int .i64 s.a)
  c3 : w.cell? ⟨b, o + 3, none⟩ = some (.int .i64 s.b)
  c4 : w.cell? ⟨b, o + 4, none⟩ = some (.int .i64 s.c)
  c5 : w.cell? ⟨b, o + 5, none⟩ = some (.int .i64 s.n)
  c6 : w.cell? ⟨b, o + 6, none⟩ = some (.string ⟨s.op.toArray⟩)
  c7 : w.cell? ⟨b, o + 7, none⟩ = some (.int .i64 s.label)
  c8 : w.cell? ⟨b, o + 8, none⟩ = some (.string ⟨s.name.toArray⟩)
  c9 : ∃ v, w.cell? ⟨b, o + 9, none⟩ = some v ∧ IntsRw w v s.args
  i1 : I64 s.code ∧ I64 s.dst ∧ I64 s.a ∧ I64 s.b ∧ I64 s.c ∧ I64 s.n ∧ I64 s.label
  i2 : s.op.length ≤ 9223372036854775807 ∧ s.name.length ≤ 9223372036854775807
structure FnRw (w : World) (b o : Nat) (f : Mf) : Prop where
  c0 : w.cell? ⟨b, o, none⟩ = some (.string ⟨f.name.toArray⟩)
  c1 : w.cell? ⟨b, o + 1, none⟩ = some (.int .i64 f.params)
  c2 : ∃ v, w.cell? ⟨b, o + 2, none⟩ = some v ∧ IntsRw w v f.types
  c3 : ∃ q c, w.cell? ⟨b, o + 3, none⟩ = some (.slice q f.steps.length c) ∧ f.steps.length ≤ c ∧ (f.steps = [] ∨ ∃ g p, q = some ⟨g, p, none⟩ ∧ ∀ j s, f.steps[j]? = some s → StRw w g (p + j * 10) s)
  i1 : I64 f.params
  i2 : f.name.length ≤ 9223372036854775807
def RowRw (w : World) (q : Option Addr) (c : Nat) (L : List Mf) : Prop := L.length ≤ c ∧ (L = [] ∨ ∃ g p, q = some ⟨g, p, none⟩ ∧ ∀ j F, L[j]? = some F → FnRw w g (p + j * 4) F)
def smallS (s : Ms) : Prop := s.args.length ≤ 20 ∧ s.op.length ≤ 20
def smallF (F : Mf) : Prop := F.steps.length ≤ 60 ∧ F.types.length ≤ 40 ∧ ∀ s ∈ F.steps, smallS s
theorem IntsRw.at' {w w' : World} {v : Value} {l : List Int} (h : IntsRw w v l) (hl : l.length ≤ 1000000) (hb : Below w.heap.size w w') : IntsAt w' v l := by
  obtain ⟨q, c, h1, h2, h3, h4⟩ := h
  refine ⟨q, c, h1, hl, h3, ?_⟩
  rcases h4 with h | ⟨g, o, e, h⟩
  · exact .inl h
  · exact .inr ⟨g, o, e, fun j x hx => by rw [hb.cell (p := ⟨g, o + j, none⟩) (zz (h j x hx))]; exact h j x hx⟩
theorem StRw.at' {w : World} {b o : Nat} {s : Ms} (h : StRw w b o s) (hs : smallS s) : StepAt w b o s := by
  obtain ⟨v, h9, h10⟩ := h.c9
  exact ⟨h.c0, h.c1, h.c2, h.c3, h.c4, h.c5, h.c6, h.c7, h.c8, ⟨v, h9, h10.at' (by have := hs.1; omega) (Below.refl _ _)⟩, h.i1, by have := hs.2; omega, h.i2.2⟩
theorem FnRw.at' {w : World} {b o : Nat} {F : Mf} (h : FnRw w b o F) (hs : smallF F) : FnAt w b o F := by
  obtain ⟨v, h2, h2'⟩ := h.c2
  obtain ⟨q, c, h3, h3', h3''⟩ := h.c3
  refine ⟨h.c0, h.c1, ⟨v, h2, h2'.at' (by have := hs.2.1; omega) (Below.refl _ _)⟩, ⟨q, c, h3, h3', ?_⟩, h.i1, h.i2, by have := hs.2.1; omega, by have := hs.1; omega⟩
  rcases h3'' with h | ⟨g, p, e, h⟩
  · exact .inl h
  · exact .inr ⟨g, p, e, fun j s hj => (h j s hj).at' (hs.2.2 s (List.mem_of_getElem? hj))⟩
theorem RowRw.rwC {w : World} {q : Option Addr} {c : Nat} {L : List Mf} (h : RowRw w q c L) (h15 : L.length ≤ 15) (hs : ∀ F ∈ L, smallF F) : RwC w q L.length c L := by
  refine ⟨rfl, h.1, by omega, ?_⟩
  rcases h.2 with h | ⟨g, p, e, h⟩
  · exact .inl h
  · exact .inr ⟨g, p, e, fun j F hF => (h j F hF).at' (hs F (List.mem_of_getElem? hF))⟩
theorem StRw.below {w w' : World} {b o : Nat} {s : Ms} (h : StRw w b o s) (hb : Below w.heap.size w w') : StRw w' b o s := by
  obtain ⟨v, h9, q, c, e, h1, h2, h3⟩ := h.c9
  have kp : ∀ (b o : Nat) (v : Value), w.cell? ⟨b, o, none⟩ = some v → w'.cell? ⟨b, o, none⟩ = some v := fun b o v hv => by rw [hb.cell (p := ⟨b, o, none⟩) (zz hv)]; exact hv
  refine ⟨kp _ _ _ h.c0, kp _ _ _ h.c1, kp _ _ _ h.c2, kp _ _ _ h.c3, kp _ _ _ h.c4, kp _ _ _ h.c5, kp _ _ _ h.c6, kp _ _ _ h.c7, kp _ _ _ h.c8, ⟨v, kp _ _ _ h9, q, c, e, h1, h2, ?_⟩, h.i1, h.i2⟩
  rcases h3 with h3 | ⟨g, o, e, h3⟩
  · exact .inl h3
  · exact .inr ⟨g, o, e, fun j x hx => kp _ _ _ (h3 j x hx)⟩
def SmP (w : World) (q : Option Addr) (c : Nat) (L : List Mf) (e : Ending) (w' : World) : Prop := (e = .returned (.bool false) ∨ (e = .returned (.bool true) ∧ RwC w' q L.length c L)) ∧ Below w.heap.size w w'
theorem small_25 (w : World) (q : Option Addr) (c : Nat) (L : List Mf) (h : RowRw w q c L) : Calls Tryz.prog 25 #[.slice q L.length c] w (SmP w q c L) := by
  obtain ⟨n, hn⟩ : ∃ n, L.length = n := ⟨_, rfl⟩
  have HN : Hid (L.length = n) := hn
  have HR : Hid (RowRw w q c L) := h
  have HNo : Hid (∀ m, SmP w q c L (.returned (.bool false)) (w.drewN m)) := fun m => ⟨.inl rfl, zD _ _⟩
  have HFin : Hid (n ≤ 15 → (∀ F ∈ L, smallF F) → ∀ m, SmP w q c L (.returned (.bool true)) (w.drewN m)) := fun h15 hs m => ⟨.inr ⟨rfl, by
    obtain ⟨a1, a2, a3, a4⟩ := HR.out.rwC (by rw [HN.out]; exact h15) hs
    refine ⟨a1, a2, a3, ?_⟩
    rcases a4 with a4 | ⟨g, p, e, a4⟩
    · exact .inl a4
    · exact .inr ⟨g, p, e, fun j F hF => (a4 j F hF).below (zD _ _)⟩⟩, zD _ _⟩
  generalize SmP w q c L = G at HNo HFin ⊢
  rw [hn]
  clear hn h
  by_cases h15 : 15 < n
  · go_enter Tryz.func25, Tryz.ntmps25
    go_wp2
    exact HNo.out 0
  go_enter Tryz.func25, Tryz.ntmps25
  go_wp2
  go_loopw [3] (fun i wr => ∃ k : Nat, k ≤ n ∧ i = .int .i64 k ∧ Hid ((∃ m, wr = w.drewN m) ∧ ∀ j F, j < k → L[j]? = some F → smallF F)) (fun i _ => n - (intOf i).toNat)
  case atStart => exact ⟨0, Nat.zero_le _, rfl, ⟨0, rfl⟩, fun j F hj => by omega⟩
  case round =>
    obtain ⟨k, hkn, rfl, HI⟩ := hrel
    by_cases hlt : k < n
    · obtain ⟨F, hF⟩ : ∃ F, L[k]? = some F := ⟨L[k]'(by have := HN.out; omega), List.getElem?_eq_getElem _⟩
      obtain ⟨g0, p0, rfl, hfn⟩ : ∃ g p, q = some ⟨g, p, none⟩ ∧ ∀ j F, L[j]? = some F → FnRw w g (p + j * 4) F := by
        rcases HR.out.2 with h | h
        · rw [h] at hF; simp at hF
        · exact h
      have hA := hfn k F hF
      have HF : Hid (L[k]? = some F) := hF
      obtain ⟨v2, hc2, q2, c2, rfl, hl2, -, -⟩ := hA.c2
      obtain ⟨q3, c3, hc3, hl3, hx3⟩ := hA.c3
      obtain ⟨nt, hnt⟩ : ∃ nt, F.types.length = nt := ⟨_, rfl⟩
      obtain ⟨ns, hns⟩ : ∃ ns, F.steps.length = ns := ⟨_, rfl⟩
      rw [hnt] at hc2 hl2
      rw [hns] at hc3 hl3
      have HC : Hid (F.types.length = nt ∧ F.steps.length = ns) := ⟨hnt, hns⟩
      have HX3 : Hid (F.steps = [] ∨ ∃ g p, q3 = some ⟨g, p, none⟩ ∧ ∀ j s, F.steps[j]? = some s → StRw w g (p + j * 10) s) := hx3
      have HU : Hid (∀ m, (w.drewN m).cell? ⟨g0, p0 + k * 4 + 2, none⟩ = some (.slice q2 nt c2) ∧ (w.drewN m).cell? ⟨g0, p0 + k * 4 + 3, none⟩ = some (.slice q3 ns c3)) := fun m => ⟨by rw [← hc2]; exact (zD w m).cell (zz hc2), by rw [← hc3]; exact (zD w m).cell (zz hc3)⟩
      obtain ⟨⟨m0, hm0⟩, hsm⟩ := HI.out
      have HS : Hid (∀ j F, j < k → L[j]? = some F → smallF F) := hsm
      subst hm0
      clear hF hfn hA hx3 hnt hns hc2 hc3 hsm HI
      obtain ⟨xa, xb⟩ := HU.out m0
      by_cases h60 : 60 < ns
      · go_wp2
        exact HNo.out m0
      by_cases h40 : 40 < nt
      · go_wp2
        exact HNo.out m0
      go_wp2
      go_loopw [4] (fun i wr => ∃ j : Nat, j ≤ ns ∧ i = .int .i64 j ∧ Hid ((∃ m, wr = w.drewN m) ∧ ∀ i s, i < j → F.steps[i]? = some s → smallS s)) (fun i _ => ns - (intOf i).toNat)
      case atStart => exact ⟨0, Nat.zero_le _, rfl, ⟨m0, rfl⟩, fun j F hj => by omega⟩
      case round =>
        obtain ⟨j, hjn, rfl, HJ⟩ := hrel
        obtain ⟨⟨m1, hm1⟩, hsj⟩ := HJ.out
        have HT : Hid (∀ i s, i < j → F.steps[i]? = some s → smallS s) := hsj
        subst hm1
        clear hsj HJ xa xb
        obtain ⟨xa, xb⟩ := HU.out m1
        by_cases hlt2 : j < ns
        · obtain ⟨s, hs⟩ : ∃ s, F.steps[j]? = some s := ⟨F.steps[j]'(by have := HC.out.2; omega), List.getElem?_eq_getElem _⟩
          obtain ⟨gs, ps, rfl, hsts⟩ : ∃ g p, q3 = some ⟨g, p, none⟩ ∧ ∀ j s, F.steps[j]? = some s → StRw w g (p + j * 10) s := by
            rcases HX3.out with h | h
            · rw [h] at hs; simp at hs
            · exact h
          have hS := (hsts j s hs).below (zD w m1)
          obtain ⟨v9, s9, qa, ca, rfl, hla, -, -⟩ := hS.c9
          have s6 := hS.c6
          have HSt : Hid (F.steps[j]? = some s) := hs
          obtain ⟨na, hna⟩ : ∃ na, s.args.length = na := ⟨_, rfl⟩
          obtain ⟨y6, hy6⟩ : ∃ y6 : ByteArray, (⟨s.op.toArray⟩ : ByteArray) = y6 := ⟨_, rfl⟩
          have hop : y6.size = s.op.length := by rw [← hy6]; simp [ByteArray.size]
          have HO : Hid (s.args.length = na ∧ y6.size = s.op.length) := ⟨hna, hop⟩
          rw [hna] at s9 hla
          rw [hy6] at s6
          clear hs hsts hS hna hy6 hop
          by_cases h20 : 20 < na
          · go_wp2
            exact HNo.out m1
          by_cases h21 : 20 < y6.size
          · go_wp2
            exact HNo.out m1
          go_wp2
          refine ⟨⟨j + 1, by omega, by go_num, ⟨m1, rfl⟩, fun i s' hi hs' => ?_⟩, by simp [intOf]; omega⟩
          by_cases hij : i < j
          · exact HT.out i s' hij hs'
          · have e : i = j := by omega
            subst e
            have e2 := HSt.out
            rw [hs'] at e2
            injection e2 with e2
            subst e2
            have := HO.out
            exact ⟨by omega, by omega⟩
        · have hje : j = ns := by omega
          subst hje
          go_wp2
          refine ⟨⟨k + 1, by omega, by go_num, ⟨m1, rfl⟩, fun i F' hi hF' => ?_⟩, by simp [intOf]; omega⟩
          by_cases hik : i < k
          · exact HS.out i F' hik hF'
          · have e : i = k := by omega
            subst e
            have e2 := HF.out
            rw [hF'] at e2
            injection e2 with e2
            subst e2
            have h1 := HC.out
            refine ⟨by omega, by omega, fun s hs => ?_⟩
            obtain ⟨i, hi⟩ := List.getElem?_of_mem hs
            exact HT.out i s (by have := (List.getElem?_eq_some_iff.1 hi).1; omega) hi
    · have hke : n = k := by omega
      subst hke
      obtain ⟨⟨m, rfl⟩, hs⟩ := HI.out
      have HS2 : Hid (∀ j F, j < n → L[j]? = some F → smallF F) := hs
      clear hs HI
      go_wp2
      refine HFin.out (by omega) (fun F hF => ?_) m
      obtain ⟨j, hj⟩ := List.getElem?_of_mem hF
      have := HN.out
      exact HS2.out j F (by have := (List.getElem?_eq_some_iff.1 hj).1; omega) hj
end Go.Proofs.YtnfhpdbbfejioaaGreatDoor.Mid
namespace Go.Proofs.YtnfhpdbbfejioaaGreatDoor.Mid
set_option linter.unusedVariables false
open Go Go.Deep Go.ChangeShapes Go.WideShapes Go.ChangeAt Go.WideMaps Go.WideElems Go.RowKit Go.ChangeMaps
theorem list_of {α : Type} {p : Nat → α → Prop} : ∀ n : Nat, (∀ i, i < n → ∃ v, p i v) → ∃ l : List α, l.length = n ∧ ∀ (i : Nat) (v : α), l[i]? = some v → p i v
  | 0, _ => ⟨[], rfl, fun i v h => by simp at h⟩
  | n + 1, h => by
    obtain ⟨l, h1, h2⟩ := list_of n (fun i hi => h i (by omega))
    obtain ⟨x, hx⟩ := h n (by omega)
    refine ⟨l ++ [x], by simp [h1], fun i v hv => ?_⟩
    by_cases hi : i < n
    · rw [List.getElem?_append_left (by omega)] at hv
      exact h2 i v hv
    · rw [List.getElem?_append_right (by omega)] at hv
      have hi2 : i - l.length = 0 := by
        have := (List.getElem?_eq_some_iff.1 hv).1
        simp at this
        omega
      rw [hi2] at hv
      have e : i = n := by omega
      subst e
      simp at hv
      subst hv
      exact hx
theorem spot_noneX {w : World} {a : Addr} {v : Value} (h : w.cell? a = some v) : a.spot = none := by
  unfold World.cell? at h
  split at h
  · cases hs : a.spot with
    | none => rfl
    | some x => simp [hs] at h
  · cases h
theorem add_atX (g o j : Nat) : (⟨g, o, none⟩ : Addr).add j = ⟨g, o + j, none⟩ := by unfold Addr.add; split <;> simp_all
theorem zX {cs l : List Value} {a b : Nat} (h : (cs.drop a).take b = l) (j : Nat) (v : Value) (hv : l[j]? = some v) : cs[a + j]? = some v := by
  subst h
  rw [List.getElem?_take] at hv
  split at hv
  · rw [List.getElem?_drop] at hv; exact hv
  · cases hv
theorem i64_wf {n : Int} (h : (Lit.int .i64 n).wf = true) : I64 n := by
  simp only [Lit.wf, Bool.and_eq_true, decide_eq_true_eq] at h
  exact ⟨h.1, h.2⟩
theorem cells2 : Tryz.prog.cellsOf 2 = 1 := by kernel_rfl
theorem cells3 : Tryz.prog.cellsOf 3 = 1 := by kernel_rfl
theorem cells9 : Tryz.prog.cellsOf 9 = 1 := by kernel_rfl
theorem cells103 : Tryz.prog.cellsOf 103 = 4 := by kernel_rfl
theorem cells125 : Tryz.prog.cellsOf 125 = 10 := by kernel_rfl
section
variable {H : Type} {enc : TypeId × Value → H} {W : World} {sp : Nat → Bool} {held : Bool}
theorem fld {t : TypeId} {fs : Array Field} {fuel : Nat} {cs : List Value} {x : DataW H × List MemPlace} (ht : Tryz.prog.underlying t = some (.struct fs)) (h : DataW.trod enc Tryz.prog W 0 sp held fuel t cs = some x) (i : Nat) (f : Field) (hf : fs[i]? = some f) :
    ∃ n y, DataW.trod enc Tryz.prog W 0 sp held n f.type ((cs.drop f.offset).take (Tryz.prog.cellsOf f.type)) = some y := by
  obtain ⟨xs, n, _, _, _, h1, h2⟩ := DataW.trod_struct ht h
  have hi : i < xs.length := by rw [h1]; exact (Array.getElem?_eq_some_iff.1 hf).1
  exact ⟨n, xs[i], by rw [h2 i f hf, List.getElem?_eq_getElem hi]⟩
theorem fint {k : Nat} {t : TypeId} {n : Nat} {cs : List Value} {y : DataW H × List MemPlace} (ht : Tryz.prog.underlying t = some (.int .i64)) (hc : Tryz.prog.cellsOf t = 1) (h : DataW.trod enc Tryz.prog W 0 sp held n t ((cs.drop k).take (Tryz.prog.cellsOf t)) = some y) : ∃ z, cs[k]? = some (.int .i64 z) ∧ I64 z := by
  obtain ⟨z, h1, _, h3⟩ := DataW.trod_int ht h
  exact ⟨z, by have := zX h1 0 _ rfl; simpa using this, i64_wf h3⟩
theorem fstr {k : Nat} {n : Nat} {cs : List Value} {y : DataW H × List MemPlace} (h : DataW.trod enc Tryz.prog W 0 sp held n 9 ((cs.drop k).take (Tryz.prog.cellsOf 9)) = some y) : ∃ s : By, cs[k]? = some (.string ⟨s.toArray⟩) ∧ s.length ≤ 9223372036854775807 := by
  obtain ⟨s, h1, _, h3⟩ := DataW.trod_string Tryz.underlying9 h
  refine ⟨s.data.toList, by have := zX h1 0 _ rfl; simpa using this, ?_⟩
  have e : s.data.toList.length = s.size := Array.length_toList
  rw [e]
  exact h3
theorem at_none {a : Addr} {m sz : Nat} {cs : List Value} (h : W.cells? 0 (a.add (0 * sz)) sz = some cs) (hsz : 0 < sz) : a.spot = none := by
  obtain ⟨_, h2, h3⟩ := World.cells?_some h
  have h4 := h3 0 hsz
  rw [List.getElem?_eq_getElem (by omega)] at h4
  have h5 := spot_noneX h4
  rw [Nat.zero_mul] at h5
  have e0 : ∀ b : Addr, b.add 0 = b := fun b => by unfold Addr.add; rw [if_pos rfl]
  rw [e0, e0] at h5
  exact h5
theorem open_intsX {t e : TypeId} {fuel : Nat} {cs : List Value} {x : DataW H × List MemPlace} (ht : Tryz.prog.underlying t = some (.slice e)) (he : Tryz.prog.underlying e = some (.int .i64)) (hc : Tryz.prog.cellsOf e = 1) (h : DataW.trod enc Tryz.prog W 0 sp held fuel t cs = some x) : ∃ v l, cs = [v] ∧ IntsRw W v l := by
  rcases open_ints ht he hc h with ⟨hcs, _⟩ | ⟨a, len, cap, zs, hcs, _, hl, hm, hz, _, hcell, hwz⟩
  · exact ⟨_, [], hcs, none, 0, rfl, Nat.le_refl _, fun x hx => (by cases hx), .inl rfl⟩
  · have hzl : len ≤ zs.length := by rw [hz]; split <;> omega
    have htl : (zs.take len).length = len := by simp; omega
    refine ⟨_, zs.take len, hcs, some a, cap, by rw [htl], by rw [htl]; exact hl, fun x hx => i64_wf (hwz x (List.mem_of_mem_take hx)), ?_⟩
    by_cases hn : zs.take len = []
    · exact .inl hn
    have hlen : 0 < len := by
      rcases Nat.eq_zero_or_pos len with h0 | h0
      · subst h0; simp at hn
      · exact h0
    have h0 := hcell 0 (by omega)
    have ha0 : a.add 0 = a := by unfold Addr.add; rw [if_pos rfl]
    rw [ha0] at h0
    obtain ⟨g, o, sp'⟩ := a
    have hsp : sp' = none := spot_noneX h0
    subst hsp
    refine .inr ⟨g, o, rfl, fun j x hx => ?_⟩
    have hj : j < len := by have := (List.getElem?_eq_some_iff.1 hx).1; omega
    have := hcell j (by omega)
    rw [add_atX] at this
    have e : zs.getD j 0 = x := by
      rw [List.getElem?_take_of_lt hj] at hx
      rw [List.getD_eq_getElem?_getD, hx]
      rfl
    rw [e] at this
    exact this
theorem fints {k n : Nat} {cs : List Value} {y : DataW H × List MemPlace} (h : DataW.trod enc Tryz.prog W 0 sp held n 100 ((cs.drop k).take (Tryz.prog.cellsOf 100)) = some y) : ∃ v l, cs[k]? = some v ∧ IntsRw W v l := by
  obtain ⟨v, l, h1, h2⟩ := open_intsX Tryz.underlying100 Tryz.underlying3 cells3 h
  exact ⟨v, l, by have := zX h1 0 _ rfl; simpa using this, h2⟩
theorem open_step {fuel : Nat} {cs : List Value} {x : DataW H × List MemPlace} (h : DataW.trod enc Tryz.prog W 0 sp held fuel 125 cs = some x) : ∃ s : Ms, ∀ g o, (∀ i, i < 10 → W.cell? ⟨g, o + i, none⟩ = cs[i]?) → StRw W g o s := by
  obtain ⟨_, _, f0⟩ := fld Tryz.underlying125 h 0 _ rfl
  obtain ⟨_, _, f1⟩ := fld Tryz.underlying125 h 1 _ rfl
  obtain ⟨_, _, f2⟩ := fld Tryz.underlying125 h 2 _ rfl
  obtain ⟨_, _, f3⟩ := fld Tryz.underlying125 h 3 _ rfl
  obtain ⟨_, _, f4⟩ := fld Tryz.underlying125 h 4 _ rfl
  obtain ⟨_, _, f5⟩ := fld Tryz.underlying125 h 5 _ rfl
  obtain ⟨_, _, f6⟩ := fld Tryz.underlying125 h 6 _ rfl
  obtain ⟨_, _, f7⟩ := fld Tryz.underlying125 h 7 _ rfl
  obtain ⟨_, _, f8⟩ := fld Tryz.underlying125 h 8 _ rfl
  obtain ⟨_, _, f9⟩ := fld Tryz.underlying125 h 9 _ rfl
  obtain ⟨z0, a0, b0⟩ := fint Tryz.underlying3 cells3 f0
  obtain ⟨z1, a1, b1⟩ := fint Tryz.underlying3 cells3 f1
  obtain ⟨z2, a2, b2⟩ := fint Tryz.underlying3 cells3 f2
  obtain ⟨z3, a3, b3⟩ := fint Tryz.underlying3 cells3 f3
  obtain ⟨z4, a4, b4⟩ := fint Tryz.underlying3 cells3 f4
  obtain ⟨z5, a5, b5⟩ := fint Tryz.underlying2 cells2 f5
  obtain ⟨z6, a6, b6⟩ := fstr f6
  obtain ⟨z7, a7, b7⟩ := fint Tryz.underlying3 cells3 f7
  obtain ⟨z8, a8, b8⟩ := fstr f8
  obtain ⟨v9, z9, a9, b9⟩ := fints f9
  refine ⟨⟨z0, z1, z2, z3, z4, z5, z6, z7, z8, z9⟩, fun g o hc => ?_⟩
  have h0 := hc 0 (by omega)
  rw [Nat.add_zero] at h0
  exact ⟨h0.trans a0, (hc 1 (by omega)).trans a1, (hc 2 (by omega)).trans a2, (hc 3 (by omega)).trans a3, (hc 4 (by omega)).trans a4, (hc 5 (by omega)).trans a5, (hc 6 (by omega)).trans a6, (hc 7 (by omega)).trans a7, (hc 8 (by omega)).trans a8, ⟨v9, (hc 9 (by omega)).trans a9, b9⟩, ⟨b0, b1, b2, b3, b4, b5, b7⟩, b6, b8⟩
theorem fsteps {k n : Nat} {cs : List Value} {y : DataW H × List MemPlace} (h : DataW.trod enc Tryz.prog W 0 sp held n 101 ((cs.drop k).take (Tryz.prog.cellsOf 101)) = some y) : ∃ (q : Option Addr) (c : Nat) (l : List Ms), cs[k]? = some (.slice q l.length c) ∧ l.length ≤ c ∧ (l = [] ∨ ∃ g p, q = some ⟨g, p, none⟩ ∧ ∀ (j : Nat) (s : Ms), l[j]? = some s → StRw W g (p + j * 10) s) := by
  rcases open_slice Tryz.underlying101 h with ⟨hcs, _⟩ | ⟨a, len, cap, m, n', D, Pl, hcs, _, hl, hm, hmm, _, hx⟩
  · exact ⟨none, 0, [], by have := zX hcs 0 _ rfl; simpa using this, Nat.le_refl _, .inl rfl⟩
  · have hlm : len ≤ m := by rw [hmm]; split <;> omega
    rw [cells125] at hx
    obtain ⟨l, h1, h2⟩ := list_of (p := fun i (s : Ms) => ∃ cs', W.cells? 0 (a.add (i * 10)) 10 = some cs' ∧ ∀ g o, (∀ i, i < 10 → W.cell? ⟨g, o + i, none⟩ = cs'[i]?) → StRw W g o s) len (fun i hi => by
      obtain ⟨cs', c1, c2⟩ := hx i (by omega)
      obtain ⟨s, hs⟩ := open_step c2
      exact ⟨s, cs', c1, hs⟩)
    refine ⟨some a, cap, l, by rw [h1]; have := zX hcs 0 _ rfl; simpa using this, by rw [h1]; exact hl, ?_⟩
    by_cases hn : l = []
    · exact .inl hn
    have hpos : 0 < len := by
      rcases Nat.eq_zero_or_pos len with h0 | h0
      · exact absurd (List.length_eq_zero_iff.1 (h1.trans h0)) hn
      · exact h0
    obtain ⟨cs', c1, _⟩ := hx 0 (by omega)
    obtain ⟨g, o, sp'⟩ := a
    have hsp : sp' = none := at_none (m := m) c1 (by omega)
    subst hsp
    refine .inr ⟨g, o, rfl, fun j s hj => ?_⟩
    obtain ⟨cs2, d1, d2⟩ := h2 j s hj
    refine d2 g (o + j * 10) (fun i hi => ?_)
    have := (World.cells?_some d1).2.2 i hi
    rw [add_atX, add_atX] at this
    exact this
theorem open_fn {fuel : Nat} {cs : List Value} {x : DataW H × List MemPlace} (h : DataW.trod enc Tryz.prog W 0 sp held fuel 103 cs = some x) : ∃ F : Mf, ∀ g o, (∀ i, i < 4 → W.cell? ⟨g, o + i, none⟩ = cs[i]?) → FnRw W g o F := by
  obtain ⟨_, _, f0⟩ := fld Tryz.underlying103 h 0 _ rfl
  obtain ⟨_, _, f1⟩ := fld Tryz.underlying103 h 1 _ rfl
  obtain ⟨_, _, f2⟩ := fld Tryz.underlying103 h 2 _ rfl
  obtain ⟨_, _, f3⟩ := fld Tryz.underlying103 h 3 _ rfl
  obtain ⟨z0, a0, b0⟩ := fstr f0
  obtain ⟨z1, a1, b1⟩ := fint Tryz.underlying3 cells3 f1
  obtain ⟨v2, z2, a2, b2⟩ := fints f2
  obtain ⟨q3, c3, z3, a3, b3, d3⟩ := fsteps f3
  refine ⟨⟨z0, z1, z2, z3⟩, fun g o hc => ?_⟩
  have h0 := hc 0 (by omega)
  rw [Nat.add_zero] at h0
  exact ⟨h0.trans a0, (hc 1 (by omega)).trans a1, ⟨v2, (hc 2 (by omega)).trans a2, b2⟩, ⟨q3, c3, (hc 3 (by omega)).trans a3, b3, d3⟩, b1, b0⟩
set_option maxRecDepth 100000 in
theorem open_fns {v : Value} {d : DataW H} {p : List MemPlace} {r : Reach} {b0 : Nat} (hv : Value.okWide Tryz.prog W r b0 50 v) (h : DataW.Trod enc Tryz.prog W 0 sp held 50 v d p) : ∃ (q : Option Addr) (c : Nat) (L : List Mf), v = .slice q L.length c ∧ RowRw W q c L := by
  obtain ⟨q0, len0, c0, rfl⟩ := okWide_slice Tryz.underlying50 hv
  obtain ⟨fuel, hf⟩ := h
  rcases open_slice Tryz.underlying50 hf with ⟨hcs, _⟩ | ⟨a, len, cap, m, n', D, Pl, hcs, _, hl, hm, hmm, _, hx⟩
  · simp [Value.cells] at hcs
    obtain ⟨rfl, rfl, rfl⟩ := hcs
    exact ⟨none, 0, [], rfl, Nat.le_refl _, .inl rfl⟩
  · simp [Value.cells] at hcs
    obtain ⟨rfl, rfl, rfl⟩ := hcs
    have hlm : len0 ≤ m := by rw [hmm]; split <;> omega
    rw [cells103] at hx
    obtain ⟨l, h1, h2⟩ := list_of (p := fun i (F : Mf) => ∃ cs', W.cells? 0 (a.add (i * 4)) 4 = some cs' ∧ ∀ g o, (∀ i, i < 4 → W.cell? ⟨g, o + i, none⟩ = cs'[i]?) → FnRw W g o F) len0 (fun i hi => by
      obtain ⟨cs', c1, c2⟩ := hx i (by omega)
      obtain ⟨F, hF⟩ := open_fn c2
      exact ⟨F, cs', c1, hF⟩)
    refine ⟨some a, c0, l, by rw [h1], by rw [h1]; exact hl, ?_⟩
    by_cases hn : l = []
    · exact .inl hn
    have hpos : 0 < len0 := by
      rcases Nat.eq_zero_or_pos len0 with h0 | h0
      · exact absurd (List.length_eq_zero_iff.1 (h1.trans h0)) hn
      · exact h0
    obtain ⟨cs', c1, _⟩ := hx 0 (by omega)
    obtain ⟨g, o, sp'⟩ := a
    have hsp : sp' = none := at_none (m := m) c1 (by omega)
    subst hsp
    refine .inr ⟨g, o, rfl, fun j F hj => ?_⟩
    obtain ⟨cs2, d1, d2⟩ := h2 j F hj
    refine d2 g (o + j * 4) (fun i hi => ?_)
    have := (World.cells?_some d1).2.2 i hi
    rw [add_atX, add_atX] at this
    exact this
set_option maxRecDepth 100000 in
theorem open_nums {v : Value} {d : DataW H} {p : List MemPlace} {r : Reach} {b0 : Nat} (hv : Value.okWide Tryz.prog W r b0 22 v) (h : DataW.Trod enc Tryz.prog W 0 sp held 22 v d p) : ∃ l, InW W v l ∧ ∀ x ∈ l, I64 x := by
  obtain ⟨q0, len0, c0, rfl⟩ := okWide_slice Tryz.underlying22 hv
  obtain ⟨fuel, hf⟩ := h
  obtain ⟨v', l, h1, q, c, h2, h3, h4, h5⟩ := open_intsX Tryz.underlying22 Tryz.underlying2 cells2 hf
  simp [Value.cells] at h1
  subst h1
  refine ⟨l, ⟨q, c, h2, ?_⟩, h4⟩
  rcases h5 with h5 | ⟨g, o, e, h5⟩
  · exact .inl h5
  · by_cases hn : l = []
    · exact .inl hn
    · have hl : 0 < l.length := by
        rcases Nat.eq_zero_or_pos l.length with h0 | h0
        · exact absurd (List.length_eq_zero_iff.1 h0) hn
        · exact h0
      exact .inr ⟨g, o, e, zz (h5 0 l[0] (List.getElem?_eq_getElem hl)), h3, h5⟩
end
theorem bool_is {H : Type} {enc : TypeId × Value → H} {P : Program} {w : World} {base : Nat} {sp : Nat → Bool} {held : Bool} {fuel : Nat} {t : TypeId} {b : Bool} {cs : List Value} {p : List MemPlace} (ht : P.underlying t = some .bool) (h : DataW.trod enc P w base sp held fuel t cs = some (.lit (.bool b), p)) : cs = [.bool b] := by
  obtain ⟨n, h1, h2⟩ := DataW.trod_bool ht h
  simp only [Prod.mk.injEq, DataW.lit.injEq, Lit.bool.injEq] at h2
  rw [h1, h2.1]
section
variable {H : Type} {enc : TypeId × Value → H} {w : World} {base : Nat} {sp : Nat → Bool} {held : Bool}
theorem int_sub {fuel : Nat} {l : List Value} {t : TypeId} {k k' : IntKind} {z : Int} {a : Nat} {p : List MemPlace} (ht : Tryz.prog.underlying t = some (.int k)) (hc : Tryz.prog.cellsOf t = 1)
    (h : DataW.trod enc Tryz.prog w base sp held fuel t ((l.drop a).take (Tryz.prog.cellsOf t)) = some (.lit (.int k' z), p)) : l[a]? = some (.int k' z) := by
  have := int_is ht h
  rw [hc] at this
  have := zX this 0 _ rfl
  simpa using this
theorem bool_sub {fuel : Nat} {l : List Value} {t : TypeId} {z : Bool} {a : Nat} {p : List MemPlace} (ht : Tryz.prog.underlying t = some .bool) (hc : Tryz.prog.cellsOf t = 1)
    (h : DataW.trod enc Tryz.prog w base sp held fuel t ((l.drop a).take (Tryz.prog.cellsOf t)) = some (.lit (.bool z), p)) : l[a]? = some (.bool z) := by
  have := bool_is ht h
  rw [hc] at this
  have := zX this 0 _ rfl
  simpa using this
theorem str_one {fuel : Nat} {cs : List Value} {p : List MemPlace} {a : Nat} {s : By} (h : DataW.trod enc Tryz.prog w base sp held fuel 9 ((cs.drop a).take (Tryz.prog.cellsOf 9)) = some (.lit (.string s), p)) : cs[a]? = some (.string ⟨s.toArray⟩) := by
  obtain ⟨x, h1, h2, _⟩ := DataW.trod_string Tryz.underlying9 h
  simp only [Prod.mk.injEq, DataW.lit.injEq, Lit.string.injEq] at h2
  have : x = ⟨s.toArray⟩ := by cases x with | mk d => rw [h2.1]
  rw [this] at h1
  have := zX h1 0 _ rfl
  simpa using this
end
theorem cells4 : Tryz.prog.cellsOf 4 = 1 := by kernel_rfl
abbrev laidM : List (String × DataW Unit) := [("math/bits.deBruijn32tab", Rows.laid_math_bits_deBruijn32tab), ("math/bits.deBruijn64tab", Rows.laid_math_bits_deBruijn64tab), ("internal/strconv.uint64pow10", Rows.laid_internal_strconv_uint64pow10), ("unicode/utf8.acceptRanges", Rows.laid_unicode_utf8_acceptRanges), ("bloomery/mid.marks", Rows.laid_bloomery_mid_marks), ("bloomery/mid.forms", Rows.laid_bloomery_mid_forms), ("strconv.ErrRange", Rows.laid_strconv_ErrRange), ("strconv.ErrSyntax", Rows.laid_strconv_ErrSyntax), ("bloomery/tree.marks", Rows.laid_bloomery_tree_marks), ("bloomery/tree.pairs", Rows.laid_bloomery_tree_pairs), ("unicode/utf8.first", Rows.laid_unicode_utf8_first)]
theorem gMarksM : Tryz.prog.globalNamed "bloomery/mid.marks" = some 4 := by kernel_rfl
theorem tMarksM : (Tryz.prog.globals[4]?).map (·.type) = some 264 := by kernel_rfl
theorem gFormsM : Tryz.prog.globalNamed "bloomery/mid.forms" = some 3 := by kernel_rfl
theorem tFormsM : (Tryz.prog.globals[3]?).map (·.type) = some 219 := by kernel_rfl
theorem marksMD : (Rows.laid_bloomery_mid_marks : DataW Unit) = .agg (marksL.map fun r => .lit (.string r)) := by kernel_rfl
theorem formsMD : (Rows.laid_bloomery_mid_forms : DataW Unit) = .agg ((List.range 15).map fun j => .agg [.lit (.int .i64 (frm j).d), .lit (.int .i64 (frm j).a), .lit (.int .i64 (frm j).b), .lit (.int .i64 (frm j).c), .lit (.bool (frm j).g)]) := by kernel_rfl
theorem cells218 : Tryz.prog.cellsOf 218 = 5 := by kernel_rfl
theorem mark_cellsM {w : World} {fuel : Nat} {cs : List Value} {p : List MemPlace} (h : DataW.trod (fun _ => ()) Tryz.prog w 0 (fun _ => true) false fuel 264 cs = some (.agg (Mid.marksL.map fun r => .lit (.string r)), p)) (j : Nat) (hj : j < 11) : cs[j]? = some (.string ⟨(Mid.marksL.getD j []).toArray⟩) := by
  obtain ⟨m, d, p', hd, h2⟩ := arr_at Tryz.underlying264 h j hj
  rw [List.getElem?_map, mark_get j hj] at hd
  simp only [Option.map_some, Option.some.injEq] at hd
  subst hd
  have := str_one h2
  rw [cells9, Nat.mul_one] at this
  exact this
theorem mk_val (j : Nat) (hj : j < 11) : Mid.marksV.getD j undef = .string ⟨(Mid.marksL.getD j []).toArray⟩ := by
  have h : j = 0 ∨ j = 1 ∨ j = 2 ∨ j = 3 ∨ j = 4 ∨ j = 5 ∨ j = 6 ∨ j = 7 ∨ j = 8 ∨ j = 9 ∨ j = 10 := by omega
  rcases h with rfl | rfl | rfl | rfl | rfl | rfl | rfl | rfl | rfl | rfl | rfl <;> rfl
theorem form_cells {w : World} {fuel : Nat} {cs : List Value} {p : List MemPlace} (h : DataW.trod (fun _ => ()) Tryz.prog w 0 (fun _ => true) false fuel 219 cs = some (.agg ((List.range 15).map fun j => .agg [.lit (.int .i64 (frm j).d), .lit (.int .i64 (frm j).a), .lit (.int .i64 (frm j).b), .lit (.int .i64 (frm j).c), .lit (.bool (frm j).g)]), p)) (j : Nat) (hj : j < 15) :
    cs[j * 5]? = some (.int .i64 (frm j).d) ∧ cs[j * 5 + 1]? = some (.int .i64 (frm j).a) ∧ cs[j * 5 + 2]? = some (.int .i64 (frm j).b) ∧ cs[j * 5 + 3]? = some (.int .i64 (frm j).c) ∧ cs[j * 5 + 4]? = some (.bool (frm j).g) := by
  obtain ⟨m, d, p', hd, h2⟩ := arr_at Tryz.underlying219 h j hj
  rw [List.getElem?_map, List.getElem?_range hj] at hd
  simp only [Option.map_some, Option.some.injEq] at hd
  rw [cells218] at h2
  subst hd
  obtain ⟨_, d0, _, e0, h0⟩ := str_at Tryz.underlying218 h2 0 _ rfl
  obtain ⟨_, d1, _, e1, h1⟩ := str_at Tryz.underlying218 h2 1 _ rfl
  obtain ⟨_, d2, _, e2, h3⟩ := str_at Tryz.underlying218 h2 2 _ rfl
  obtain ⟨_, d3, _, e3, h4⟩ := str_at Tryz.underlying218 h2 3 _ rfl
  obtain ⟨_, d4, _, e4, h5⟩ := str_at Tryz.underlying218 h2 4 _ rfl
  cases e0; cases e1; cases e2; cases e3; cases e4
  have z0 := int_sub Tryz.underlying3 cells3 h0
  have z1 := int_sub Tryz.underlying3 cells3 h1
  have z2 := int_sub Tryz.underlying3 cells3 h3
  have z3 := int_sub Tryz.underlying3 cells3 h4
  have z4 := bool_sub Tryz.underlying4 cells4 h5
  have y0 := zX (cs := cs) rfl 0 _ z0
  rw [Nat.add_zero] at y0
  exact ⟨y0, zX rfl 1 _ z1, zX rfl 2 _ z2, zX rfl 3 _ z3, zX rfl 4 _ z4⟩
set_option maxRecDepth 100000 in
theorem env_ofM {W : World} (hR : laidMetH Tryz.prog laidM W) (hsh : W.ShapedOpen Tryz.prog) : EnvW 14 W ∧ FmE W ∧ MkE W := by
  have h : laidMet Tryz.prog laidM W := by
    rw [MakeChecks.laidMetH_plain _ _ _ (by kernel_rfl)] at hR
    exact hR
  have h0 := h.filter (fun x => !(x.1 == "bloomery/mid.marks" || x.1 == "bloomery/mid.forms"))
  rw [show laidM.filter (fun x => !(x.1 == "bloomery/mid.marks" || x.1 == "bloomery/mid.forms")) = laidP by kernel_rfl] at h0
  have hP : laidMetH Tryz.prog laidP W := by
    rw [MakeChecks.laidMetH_plain _ _ _ (by kernel_rfl)]
    exact h0
  have h1 := h.filter (fun x => x.1 == "bloomery/mid.marks")
  rw [show laidM.filter (fun x => x.1 == "bloomery/mid.marks") = [("bloomery/mid.marks", Rows.laid_bloomery_mid_marks)] by kernel_rfl] at h1
  have h2 := h.filter (fun x => x.1 == "bloomery/mid.forms")
  rw [show laidM.filter (fun x => x.1 == "bloomery/mid.forms") = [("bloomery/mid.forms", Rows.laid_bloomery_mid_forms)] by kernel_rfl] at h2
  obtain ⟨_, ⟨g0, t0, cs0, f0, p0, q0, hg0, ht0, hv0, hd0, _, _⟩, _, _⟩ := h1
  obtain rfl := Option.some.inj (gMarksM.symm.trans hg0)
  obtain rfl := Option.some.inj (tMarksM.symm.trans ht0)
  rw [marksMD] at hd0
  have c0 : ∀ i, W.cell? ⟨4, i, none⟩ = cs0.toList[i]? := fun i => by rw [World.var?_cell hg0 hv0 i]; simp
  obtain ⟨_, ⟨g1, t1, cs1, f1, p1, q1, hg1, ht1, hv1, hd1, _, _⟩, _, _⟩ := h2
  obtain rfl := Option.some.inj (gFormsM.symm.trans hg1)
  obtain rfl := Option.some.inj (tFormsM.symm.trans ht1)
  rw [formsMD] at hd1
  have c1 : ∀ i, W.cell? ⟨3, i, none⟩ = cs1.toList[i]? := fun i => by rw [World.var?_cell hg1 hv1 i]; simp
  refine ⟨env_ofP hP hsh, fun j hj => ?_, fun j hj => ?_⟩
  · rw [c1, c1, c1, c1, c1]
    exact form_cells hd1 j hj
  · rw [c0, mk_val j hj]
    exact mark_cellsM hd0 j hj
end Go.Proofs.YtnfhpdbbfejioaaGreatDoor.Mid
