/- CB -/
import Derived.Test.YtnfhpdbbfejioaaGreatDoorQ31
import Derived.Test.YtnfhpdbbfejioaaGreatDoorQ32
namespace Go.Proofs.YtnfhpdbbfejioaaGreatDoor
set_option linter.unusedVariables false
set_option linter.unusedSimpArgs false
set_option maxRecDepth 100000
set_option maxHeartbeats 4000000
open Go Go.RowKit
def ThrewI (k a : Int) (e : Ending) (w' : World) : Prop := ∃ b, e = .panicked [{ v := .iface 72 (.pointer (some ⟨b, 0, none⟩)), recovered := false }] ∧ w'.heap[b]? = some (.cells #[.int .i64 k, .int .i64 a] 139)
theorem jl (k a : Int) (w : World) : Calls Tryz.prog 64 #[.int .i64 k, .int .i64 a] w fun e w' => ThrewI k a e w' ∧ Below w.heap.size w w' := by
 go_enter Tryz.func64, Tryz.ntmps64
 go_wp2
 exact ⟨rfl, ⟨_, rfl, heap_alloc_last w _⟩, (Below.refl _ _).alloc (Nat.le_refl _) _⟩
theorem same_any (y : ByteArray) (k : Int) (b : Nat) (nm : ByteArray) (w : World) (h : w.cell? ⟨b, 0, none⟩ = some (.string nm)) : Calls Tryz.prog 155 #[.agg #[.string y, .int .i64 k], .pointer (some ⟨b, 0, none⟩)] w fun e w' => e = .returned (.bool (decide (y = nm))) ∧ Below w.heap.size w w' := by
 have hA : (w.alloc (.cells #[.string y, .int .i64 k] 144)).cell? ⟨b, 0, none⟩ = some (.string nm) := (((Below.refl w.heap.size w).alloc (Nat.le_refl _) _).cell (World.block_lt_of_cell? w _ h)).trans h
 have HB : Hid (Below w.heap.size w (w.alloc (.cells #[.string y, .int .i64 k] 144))) := (Below.refl _ _).alloc (Nat.le_refl _) _
 by_cases e : y = nm
 ·subst e
  go_enter Tryz.func155, Tryz.ntmps155
  go_wp2
  go_ret
  exact ⟨by simp, HB.out⟩
 ·have e1 := bytes_neq e
  have e2 : decide (y = nm) = false := by simpa using e
  rw [e2]
  clear e2 e
  go_enter Tryz.func155, Tryz.ntmps155
  go_wp2
  go_ret
  exact ⟨rfl, HB.out⟩
def ixN (nm : By) : Nm → Option Nat
 | [] => none
 | x :: ns => if x.1 = nm then some 0 else (ixN nm ns).map (· + 1)
def ixI (ns : Nm) (nm : By) : Int := match ixN nm ns with | some i => i | none => -1
theorem ix_hit (nm : By) : ∀ (ns : Nm) (i : Nat) (x : By × Int), ns[i]? = some x → x.1 = nm → (∀ j y, j < i → ns[j]? = some y → ¬ y.1 = nm) → ixN nm ns = some i
 | [], i, x, h, _, _ => by simp at h
 | z :: ns, 0, x, h, hx, _ => by
  simp at h
  subst h
  rw [ixN, if_pos hx]
 | z :: ns, i + 1, x, h, hx, hn => by
  rw [ixN, if_neg (hn 0 z (by omega) rfl), ix_hit nm ns i x (by simpa using h) hx (fun j y hj hy => hn (j + 1) y (by omega) (by simpa using hy))]
  rfl
theorem ix_none (nm : By) : ∀ (ns : Nm), (∀ j y, j < ns.length → ns[j]? = some y → ¬ y.1 = nm) → ixN nm ns = none
 | [], _ => rfl
 | z :: ns, hn => by
  rw [ixN, if_neg (hn 0 z (by simp) rfl), ix_none nm ns (fun j y hj hy => hn (j + 1) y (by simpa using hj) (by simpa using hy))]
  rfl
theorem ix_fnd (nm : By) : ∀ (ns : Nm), (∃ i x, ixN nm ns = some i ∧ ns[i]? = some x ∧ i < ns.length ∧ ja ns nm = some x.2) ∨ (ixN nm ns = none ∧ ja ns nm = none)
 | [] => .inr ⟨rfl, rfl⟩
 | z :: ns => by
  unfold ja
  rw [ixN, List.find?_cons]
  by_cases h : z.1 = nm
  ·have : (z.1 == nm) = true := by simpa using h
   rw [if_pos h, this]
   exact .inl ⟨0, z, rfl, rfl, by simp, rfl⟩
  ·have : (z.1 == nm) = false := by simpa using h
   rw [if_neg h, this]
   rcases ix_fnd nm ns with ⟨i, x, h1, h2, h3, h4⟩ | ⟨h1, h2⟩
   ·exact .inl ⟨i + 1, x, by rw [h1]; rfl, by simpa using h2, by simpa using h3, h4⟩
   ·exact .inr ⟨by rw [h1]; rfl, h2⟩
theorem index_any (ns : Nm) (v : Value) (B b : Nat) (nm : ByteArray) (w : World) (hr : w.ownsRow B 144 2 v ns.length (psC ns)) (hl : ns.length ≤ 1000) (h : w.cell? ⟨b, 0, none⟩ = some (.string nm)) :
  Calls Tryz.prog 154 #[v, .func (.func 155) #[] #[.pointer (some ⟨b, 0, none⟩)]] w fun e w' => e = .returned (.int .i64 (ixI ns nm.data.toList)) ∧ Below w.heap.size w w' := by
 obtain ⟨q, c, rfl⟩ := ze hr
 have HR : Hid (w.ownsRow B 144 2 (.slice q ns.length c) ns.length (psC ns)) := hr
 have HC : Hid (∀ W, Below w.heap.size w W → W.cell? ⟨b, 0, none⟩ = some (.string nm)) := fun W hb => (hb.cell (World.block_lt_of_cell? w _ h)).trans h
 obtain ⟨n, hn⟩ : ∃ n, n = ns.length := ⟨_, rfl⟩
 have HN : Hid (n = ns.length) := hn
 rw [← hn] at HR hl ⊢
 clear hr hn h
 go_enter Tryz.func154, Tryz.ntmps154
 go_wp2_with fail
 go_loopw [8] (fun v wr => ∃ i : Nat, i ≤ n ∧ v = .int .i64 i ∧ Hid (∀ j y, j < i → ns[j]? = some y → ¬ y.1 = nm.data.toList) ∧ Hid (Below w.heap.size w wr)) (fun v _ => n - (intOf v).toNat)
 case atStart => exact ⟨0, Nat.zero_le _, rfl, fun j y hj => by omega, Below.refl _ _⟩
 case round =>
  obtain ⟨i, hin, rfl, HI, HB⟩ := hrel
  by_cases hlt : i < n
  ·obtain ⟨g, cap, e, -, -⟩ := HR.out.form (by omega)
   injection e with e1 e2 e3
   subst e1
   clear e2 e3
   obtain ⟨x, hx⟩ : ∃ x, ns[i]? = some x := ⟨ns[i]'(by have := HN.out; omega), List.getElem?_eq_getElem (by have := HN.out; omega)⟩
   obtain ⟨hc0, hc1⟩ := psC_get ns i x hx
   obtain ⟨y, hy, hyt⟩ := zt x.1
   rw [hy] at hc0
   have hrow := HR.out.kept (qP HB.out) (.inr (by simp [Value.ownBlock]))
   have q0 : wr.cell? ⟨g, i * 2, none⟩ = some (.string y) := by
    have := hrow.cells (g := g) rfl (i * 2) _ hc0
    rw [zL] at this
    exact this
   have q1 : wr.cell? ⟨g, i * 2 + 1, none⟩ = some (.int .i64 x.2) := by
    have := hrow.cells (g := g) rfl (i * 2 + 1) _ hc1
    rw [zL] at this
    exact this
   generalize x.2 = ty at q1
   have HS : Hid (Calls Tryz.prog 155 #[.agg #[.string y, .int .i64 ty], .pointer (some ⟨b, 0, none⟩)] wr fun e w' => e = .returned (.bool (decide (y = nm))) ∧ Below wr.heap.size wr w') := same_any y ty b nm wr (HC.out wr HB.out)
   have HX : Hid (ns[i]? = some x ∧ y.data.toList = x.1) := ⟨hx, hyt⟩
   clear hrow hc0 hc1 hx hy hyt
   by_cases he : y = nm
   ·have hd : decide (y = nm) = true := by simpa using he
    rw [hd] at HS
    have HE : Hid (ixI ns nm.data.toList = (i : Int)) := by
     show _ = _
     unfold ixI
     rw [ix_hit nm.data.toList ns i x HX.out.1 (by rw [← HX.out.2, he]) HI.out]
    clear hd he
    go_wp2_with (go_at_call 155; refine HS.out.mono ?_; rintro e w1 ⟨rfl, hb⟩; have HB1 : Hid (Below w.heap.size w w1) := HB.out.trans (hb.mono HB.out.size); clear hb)
    go_ret
    exact ⟨by rw [HE.out]; rfl, HB1.out⟩
   ·have hd : decide (y = nm) = false := by simpa using he
    rw [hd] at HS
    have HI2 : Hid (∀ j y, j < i + 1 → ns[j]? = some y → ¬ y.1 = nm.data.toList) := fun j z hj hz => by
     rcases Nat.lt_or_ge j i with hj2 | hj2
     ·exact HI.out j z hj2 hz
     ·obtain rfl : j = i := by omega
      rw [HX.out.1] at hz
      injection hz with hz
      subst hz
      rw [← HX.out.2]
      exact fun e => he (ba_inj e)
    clear hd he
    go_wp2_with (go_at_call 155; refine HS.out.mono ?_; rintro e w1 ⟨rfl, hb⟩; have HB1 : Hid (Below w.heap.size w w1) := HB.out.trans (hb.mono HB.out.size); clear hb)
    exact ⟨⟨i + 1, by omega, by go_num, HI2, HB1⟩, by simp [intOf]; omega⟩
  ·obtain rfl : i = n := by omega
   have HE : Hid (ixI ns nm.data.toList = -1) := by
    show _ = _
    unfold ixI
    rw [ix_none nm.data.toList ns (fun j y hj hy => HI.out j y (by rw [HN.out]; exact hj) hy)]
   clear hlt
   go_wp2
   go_ret
   exact ⟨by rw [HE.out]; rfl, HB.out⟩
end Go.Proofs.YtnfhpdbbfejioaaGreatDoor
