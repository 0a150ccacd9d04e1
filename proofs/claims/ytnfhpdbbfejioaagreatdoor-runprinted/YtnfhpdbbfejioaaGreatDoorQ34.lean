/- CC -/
import Derived.Test.YtnfhpdbbfejioaaGreatDoorQ33
namespace Go.Proofs.YtnfhpdbbfejioaaGreatDoor
set_option linter.unusedVariables false
set_option linter.unusedSimpArgs false
set_option maxRecDepth 100000
set_option maxHeartbeats 4000000
open Go Go.RowKit
structure CkS (w : World) (C : Nat) (fv mv nv : Value) (ns : Nm) (k : Nat) : Prop where
 blk : w.heap[C]? = some (.cells #[fv, mv, nv, .int .i64 (k : Int)] 96)
 row : w.ownsRow (C + 1) 144 2 nv ns.length (psC ns)
 le : ns.length ≤ k
 k12 : k ≤ 12
theorem CkS.below {w w' : World} {C : Nat} {fv mv nv : Value} {ns : Nm} {k : Nat} (h : CkS w C fv mv nv ns k) (hb : Below w.heap.size w w') : CkS w' C fv mv nv ns k :=
 ⟨by rw [hb.block C (Array.getElem?_eq_some_iff.1 h.blk).1]; exact h.blk, h.row.kept (qP hb) (by cases nv.ownBlock <;> simp), h.le, h.k12⟩
theorem CkS.lt {w : World} {C : Nat} {fv mv nv : Value} {ns : Nm} {k : Nat} (h : CkS w C fv mv nv ns k) : C < w.heap.size := (Array.getElem?_eq_some_iff.1 h.blk).1
theorem find_any {w : World} {C : Nat} {fv mv nv : Value} {ns : Nm} {k : Nat} (h : CkS w C fv mv nv ns k) (nm : ByteArray) :
  Calls Tryz.prog 102 #[.pointer (some ⟨C, 0, none⟩), .string nm] w fun e w' => e = .returned (.int .i64 (ixI ns nm.data.toList)) ∧ Below w.heap.size w w' := by
 have hmf : ∀ (fn : Fn) (first cap : Array Value) (w : World), (Instr.makeFunc fn first cap).run Tryz.prog w = .ok (.func fn first cap) w := fun _ _ _ _ => rfl
 obtain ⟨q, c, rfl⟩ := ze h.row
 have hb1 : Below w.heap.size w (w.alloc (.cells #[.string nm] 9)) := (Below.refl _ _).alloc (Nat.le_refl _) _
 have h1 := h.below hb1
 have c2 := z_ (i := 2) h1.blk rfl
 have HI : Hid (Calls Tryz.prog 154 #[.slice q ns.length c, .func (.func 155) #[] #[.pointer (some ⟨w.heap.size, 0, none⟩)]] (w.alloc (.cells #[.string nm] 9)) fun e w' => e = .returned (.int .i64 (ixI ns nm.data.toList)) ∧ Below (w.alloc (.cells #[.string nm] 9)).heap.size (w.alloc (.cells #[.string nm] 9)) w') :=
  index_any ns _ (C + 1) w.heap.size nm _ h1.row (by have := h.le; have := h.k12; omega) (z_ (i := 0) (heap_alloc_last w _) rfl)
 have HB : Hid (∀ w', Below (w.alloc (.cells #[.string nm] 9)).heap.size (w.alloc (.cells #[.string nm] 9)) w' → Below w.heap.size w w') := fun w' hb => hb1.trans (hb.mono (by simp))
 generalize ns.length = n at *
 clear h h1 hb1
 go_enter Tryz.func102, Tryz.ntmps102
 go_wp2_with (go_at_call 154; refine HI.out.mono ?_; rintro e w1 ⟨rfl, hb⟩; have HB1 : Hid (Below w.heap.size w w1) := HB.out _ hb; clear hb)
 go_ret
 exact ⟨rfl, HB1.out⟩
theorem fnd_le {ns : Nm} {nm : By} : (∃ (i : Nat) (x : By × Int), ixI ns nm = (i : Int) ∧ ns[i]? = some x ∧ i < ns.length ∧ ja ns nm = some x.2) ∨ (ixI ns nm = -1 ∧ ja ns nm = none) := by
 unfold ixI
 rcases ix_fnd nm ns with ⟨i, x, h1, h2, h3, h4⟩ | ⟨h1, h2⟩
 ·exact .inl ⟨i, x, by rw [h1], h2, h3, h4⟩
 ·exact .inr ⟨by rw [h1], h2⟩
def VarP (r : Option Int) (a : Int) (e : Ending) (w' : World) : Prop := (∃ t, r = some t ∧ e = .returned (.int .i64 t)) ∨ (r = none ∧ ThrewI 7 a e w')
theorem variable_any {w : World} {C : Nat} {fv mv nv : Value} {ns : Nm} {k : Nat} (h : CkS w C fv mv nv ns k) (nm : ByteArray) (a : Int) :
  Calls Tryz.prog 158 #[.pointer (some ⟨C, 0, none⟩), .string nm, .int .i64 a] w fun e w' => VarP (ja ns nm.data.toList) a e w' ∧ Below w.heap.size w w' := by
 have HF : Hid (Calls Tryz.prog 102 #[.pointer (some ⟨C, 0, none⟩), .string nm] w fun e w' => e = .returned (.int .i64 (ixI ns nm.data.toList)) ∧ Below w.heap.size w w') := find_any h nm
 have HS : Hid (CkS w C fv mv nv ns k) := h
 rcases fnd_le (ns := ns) (nm := nm.data.toList) with ⟨i, x, e1, e2, e3, e4⟩ | ⟨e1, e2⟩
 ·rw [e1] at HF
  obtain ⟨ty, hty⟩ : ∃ ty, x.2 = ty := ⟨_, rfl⟩
  rw [hty] at e4
  rw [e4]
  have HTy : Hid (x.2 = ty) := hty
  have HX : Hid (ns[i]? = some x ∧ i < ns.length) := ⟨e2, e3⟩
  have hi : ns.length ≤ 12 := by have := h.le; have := h.k12; omega
  obtain ⟨n, hn⟩ : ∃ n, n = ns.length := ⟨_, rfl⟩
  rw [← hn] at e3 hi
  have HNn : Hid (n = ns.length) := hn
  clear h e1 e2 e4 hn hty
  go_enter Tryz.func158, Tryz.ntmps158
  go_wp2_with (go_at_call 102; fail)
  refine HF.out.mono ?_
  rintro e w1 ⟨rfl, hb⟩
  have hS1 := HS.out.below hb
  have HB1 : Hid (Below w.heap.size w w1) := hb
  have hrow := hS1.row
  obtain ⟨g, cap, ev, -, -⟩ := hrow.form (by have := HX.out.2; omega)
  rw [ev] at hrow hS1
  obtain ⟨hc0, hc1⟩ := psC_get ns i x HX.out.1
  have q1 : w1.cell? ⟨g, i * 2 + 1, none⟩ = some (.int .i64 x.2) := by
   have := hrow.cells (g := g) rfl (i * 2 + 1) _ hc1
   rw [zL] at this
   exact this
  have c2 := z_ (i := 2) hS1.blk rfl
  rw [← HNn.out] at c2
  rw [HTy.out] at q1
  clear hb hS1 hrow hc0 hc1 ev
  go_wp2
  go_ret
  exact ⟨.inl ⟨ty, rfl, rfl⟩, HB1.out⟩
 ·rw [e1] at HF
  rw [e2]
  clear h e1 e2
  go_enter Tryz.func158, Tryz.ntmps158
  go_wp2_with (go_at_call 102; fail)
  refine HF.out.mono ?_
  rintro e w1 ⟨rfl, hb⟩
  have HB1 : Hid (Below w.heap.size w w1) := hb
  clear hb
  go_wp2_with (go_at_call 64; fail)
  refine (jl 7 a w1).mono ?_
  rintro e w2 ⟨⟨b, rfl, hb2⟩, hb⟩
  exact ⟨rfl, .inr ⟨rfl, b, rfl, hb2⟩, HB1.out.trans (hb.mono HB1.out.size)⟩
end Go.Proofs.YtnfhpdbbfejioaaGreatDoor
