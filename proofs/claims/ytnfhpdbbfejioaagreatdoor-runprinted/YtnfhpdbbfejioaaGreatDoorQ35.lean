/- CD -/
import Derived.Test.YtnfhpdbbfejioaaGreatDoorQ34
namespace Go.Proofs.YtnfhpdbbfejioaaGreatDoor
set_option linter.unusedVariables false
set_option linter.unusedSimpArgs false
set_option maxRecDepth 100000
set_option maxHeartbeats 4000000
open Go Go.RowKit
def Kt (w w' : World) : Prop := ∀ (b : Nat) (cs : Array Value) (t : TypeId), t ≠ 96 → t ≠ 144 → w.heap[b]? = some (.cells cs t) → w'.heap[b]? = some (.cells cs t)
theorem Kt.trans {a b c : World} (h : Kt a b) (g : Kt b c) : Kt a c := fun k cs t h1 h2 hk => g k cs t h1 h2 (h k cs t h1 h2 hk)
theorem zF {w w' : World} (h : Below w.heap.size w w') : Kt w w' := fun b cs t _ _ hb => by rw [h.block b (Array.getElem?_eq_some_iff.1 hb).1]; exact hb
theorem kt_set {w : World} {C i : Nat} {cs : Array Value} {v : Value} (h : w.heap[C]? = some (.cells cs 96)) : Kt w (w.setCell ⟨C, i, none⟩ v) := fun b ds t h1 _ hb => by
 rw [heap_setCell_other _ _ _ _ (by
  show b ≠ C
  intro e
  rw [e, h] at hb
  injection hb with hb
  injection hb with _ h2
  exact h1 h2.symm)]
 exact hb
theorem kt_grown {w w' : World} {v : Value} {B n : Nat} {xs : List Value} (h : w.grownBy w' v.ownBlock) (hr : w.ownsRow B 144 2 v n xs) : Kt w w' := fun b ds t _ h2 hb => by
 rw [h.block b (Array.getElem?_eq_some_iff.1 hb).1 (fun e => by
  rcases hr.2 with ⟨e1, _⟩ | ⟨g, cap, cur, e1, _, e3, _⟩
  ·rw [e1] at e; cases e
  ·rw [e1] at e
   injection e with e
   have e' : b = g := e
   rw [e', e3] at hb
   injection hb with hb
   injection hb with _ h4
   exact h2 h4.symm)]
 exact hb
def CkP (r : X (Nm × Nat)) (C : Nat) (fv mv : Value) (w : World) (e : Ending) (w' : World) : Prop :=
 ((∃ ns k nv, r = .ok (ns, k) ∧ e = .returned (.tuple #[]) ∧ CkS w' C fv mv nv ns k) ∨ (∃ k a, r = .error (k, a) ∧ ThrewI k a e w')) ∧ Below C w w' ∧ Kt w w'
theorem add_any {w : World} {C : Nat} {fv mv nv : Value} {ns : Nm} {k : Nat} (h : CkS w C fv mv nv ns k) (nm : ByteArray) (ty a : Int) :
  Calls Tryz.prog 65 #[.pointer (some ⟨C, 0, none⟩), .agg #[.string nm, .int .i64 ty], .int .i64 a] w (CkP (addV (ns, k) (nm.data.toList, ty) a) C fv mv w) := by
 obtain ⟨W0, hW0⟩ : ∃ W0, W0 = w.alloc (.cells #[.string nm, .int .i64 ty] 144) := ⟨_, rfl⟩
 have hb0 : Below w.heap.size w W0 := by rw [hW0]; exact (Below.refl _ _).alloc (Nat.le_refl _) _
 have hp0 : W0.heap[w.heap.size]? = some (.cells #[.string nm, .int .i64 ty] 144) := by rw [hW0]; exact heap_alloc_last w _
 have h0 := h.below hb0
 have HF : Hid (Calls Tryz.prog 102 #[.pointer (some ⟨C, 0, none⟩), .string nm] W0 fun e w' => e = .returned (.int .i64 (ixI ns nm.data.toList)) ∧ Below W0.heap.size W0 w') := find_any h0 nm
 have HS0 : Hid (CkS W0 C fv mv nv ns k) := h0
 have HP0 : Hid (W0.heap[w.heap.size]? = some (.cells #[.string nm, .int .i64 ty] 144)) := hp0
 have HB0 : Hid (Below w.heap.size w W0) := hb0
 have HCl : Hid (C < w.heap.size) := h.lt
 have HG0 : Hid (∀ e w', CkP (addV (ns, k) (nm.data.toList, ty) a) C fv mv w e w' → CkP (addV (ns, k) (nm.data.toList, ty) a) C fv mv w e w') := fun _ _ h => h
 generalize hG : CkP (addV (ns, k) (nm.data.toList, ty) a) C fv mv w = G at *
 clear HG0
 have HG0 : Hid (∀ e w', CkP (addV (ns, k) (nm.data.toList, ty) a) C fv mv w e w' → G e w') := fun e w' h => by rw [← hG]; exact h
 have hk12 := h.k12
 have c0 : (w.alloc (.cells #[.string nm, .int .i64 ty] 144)).cell? ⟨w.heap.size, 0, none⟩ = some (.string nm) := z_ (i := 0) (heap_alloc_last w _) rfl
 clear hb0 hp0 h0 h hG
 rcases fnd_le (ns := ns) (nm := nm.data.toList) with ⟨i, x, e1, e2, e3, e4⟩ | ⟨e1, e2⟩
 ·rw [e1] at HF
  have HR : Hid (addV (ns, k) (nm.data.toList, ty) a = .error (9, a)) := by
   show _ = _
   unfold addV
   rw [if_pos (by rw [show ja (ns, k).1 (nm.data.toList, ty).1 = ja ns nm.data.toList from rfl, e4]; rfl)]
  clear e1 e2 e3 e4
  go_enter Tryz.func65, Tryz.ntmps65
  go_wp2_with (go_at_call 102; fail)
  rw [← hW0]
  clear hW0 c0
  refine HF.out.mono ?_
  rintro e w1 ⟨rfl, hb⟩
  have HB1 : Hid (Below w.heap.size w w1) := HB0.out.trans (hb.mono HB0.out.size)
  clear hb
  go_wp2_with (go_at_call 64; fail)
  refine (jl 9 a w1).mono ?_
  rintro e w2 ⟨⟨b, rfl, hb2⟩, hb⟩
  exact ⟨rfl, HG0.out _ _ ⟨.inr ⟨9, a, HR.out, b, rfl, hb2⟩, (HB1.out.trans (hb.mono HB1.out.size)).mono (Nat.le_of_lt HCl.out), zF (HB1.out.trans (hb.mono HB1.out.size))⟩⟩
 ·rw [e1] at HF
  by_cases h12 : k = 12
  ·have HR : Hid (addV (ns, k) (nm.data.toList, ty) a = .error (12, a)) := by
    show _ = _
    unfold addV
    rw [if_neg (by rw [show ja (ns, k).1 (nm.data.toList, ty).1 = ja ns nm.data.toList from rfl, e2]; simp), if_pos h12]
   subst h12
   clear e1 e2
   go_enter Tryz.func65, Tryz.ntmps65
   go_wp2_with (go_at_call 102; fail)
   rw [← hW0]
   clear hW0 c0
   refine HF.out.mono ?_
   rintro e w1 ⟨rfl, hb⟩
   have HB1 : Hid (Below w.heap.size w w1) := HB0.out.trans (hb.mono HB0.out.size)
   have c3 := z_ (i := 3) (HS0.out.below hb).blk rfl
   clear hb
   go_wp2_with (go_at_call 64; fail)
   refine (jl 12 a w1).mono ?_
   rintro e w2 ⟨⟨b, rfl, hb2⟩, hb⟩
   exact ⟨rfl, HG0.out _ _ ⟨.inr ⟨12, a, HR.out, b, rfl, hb2⟩, (HB1.out.trans (hb.mono HB1.out.size)).mono (Nat.le_of_lt HCl.out), zF (HB1.out.trans (hb.mono HB1.out.size))⟩⟩
  ·have HR : Hid (addV (ns, k) (nm.data.toList, ty) a = .ok (ns ++ [(nm.data.toList, ty)], k + 1)) := by
    show _ = _
    unfold addV
    rw [if_neg (by rw [show ja (ns, k).1 (nm.data.toList, ty).1 = ja ns nm.data.toList from rfl, e2]; simp), if_neg h12]
   have h12' : ((k : Int) == 12) = false := by simp; omega
   clear e1 e2
   obtain ⟨i0, hi0, hz0, hs0, hbb0⟩ := qt info83
   go_enter Tryz.func65, Tryz.ntmps65
   go_wp2_with (go_at_call 102; fail)
   rw [← hW0]
   clear hW0 c0
   refine HF.out.mono ?_
   rintro e w1 ⟨rfl, hb⟩
   have HB1 : Hid (Below w.heap.size w w1) := HB0.out.trans (hb.mono HB0.out.size)
   have hS1 := HS0.out.below hb
   obtain ⟨q, cq, rfl⟩ := ze hS1.row
   have hp1 : w1.heap[w.heap.size]? = some (.cells #[.string nm, .int .i64 ty] 144) := by rw [hb.block _ (Array.getElem?_eq_some_iff.1 HP0.out).1]; exact HP0.out
   have c2 := z_ (i := 2) hS1.blk rfl
   have c3 := z_ (i := 3) hS1.blk rfl
   have p0 := z_ (i := 0) hp1 rfl
   have p1 := z_ (i := 1) hp1 rfl
   have f3 := zb hS1.blk 3
   have HS1 : Hid (CkS w1 C fv mv (.slice q ns.length cq) ns k) := hS1
   have HP1 : Hid (w1.heap[w.heap.size]? = some (.cells #[.string nm, .int .i64 ty] 144)) := hp1
   clear hb hS1 hp1
   go_wp2_with fail
   obtain ⟨W2, hW2⟩ : ∃ W2, W2 = w1.setCell ⟨C, 3, none⟩ (.int .i64 ((k : Int) + 1)) := ⟨_, rfl⟩
   have hblk2 : W2.heap[C]? = some (.cells #[fv, mv, .slice q ns.length cq, .int .i64 ((k : Int) + 1)] 96) := by rw [hW2]; exact heap_setCell_same _ _ _ _ _ _ HS1.out.blk
   have hp2 : W2.heap[w.heap.size]? = some (.cells #[.string nm, .int .i64 ty] 144) := by
    rw [hW2, heap_setCell_other _ _ _ _ (by show w.heap.size ≠ C; have := HCl.out; omega)]
    exact HP1.out
   have hrow2 : W2.ownsRow (C + 1) 144 2 (.slice q ns.length cq) ns.length (psC ns) := by rw [hW2]; exact ownsRow_setCell_below HS1.out.row (by show C < C + 1; omega) _
   have hb2 : Below C w W2 := by rw [hW2]; exact (HB1.out.mono (Nat.le_of_lt HCl.out)).setCell (p := ⟨C, 3, none⟩) (Nat.le_refl _) _
   have hCl2 : C < W2.heap.size := (Array.getElem?_eq_some_iff.1 hblk2).1
   have hk2 : Kt w W2 := by rw [hW2]; exact (zF HB1.out).trans (kt_set HS1.out.blk)
   have HK2 : Hid (Kt w W2) := hk2
   rw [← hW2]
   have c2' := z_ (i := 2) hblk2 rfl
   have ca2 : (W2.alloc (.cells #[.string nm, .int .i64 ty] 144)).cell? ⟨C, 2, none⟩ = some (.slice q ns.length cq) := z_ (i := 2) (zc hblk2 _) rfl
   have p0' := z_ (i := 0) hp2 rfl
   have p1' := z_ (i := 1) hp2 rfl
   have HO4 : Hid (((W2.alloc (.cells #[.string nm, .int .i64 ty] 144)).drew).ownsRow (C + 1) 144 2 (.slice q ns.length cq) ns.length (psC ns)) := (hrow2.alloc _).drew
   have HN4 : Hid (∀ (i : Nat) (x : Value), ([.string nm, .int .i64 ty] : List Value)[i]? = some x → ((W2.alloc (.cells #[.string nm, .int .i64 ty] 144)).drew).cell? ((⟨W2.heap.size, 0, none⟩ : Addr).add i) = some x) := World.news_of_block (cs := #[.string nm, .int .i64 ty]) (t := 144) (fr := (0, 0)) (heap_alloc_last W2 _)
   have H14 : Hid (∀ u ∈ ([.string nm, .int .i64 ty] : List Value), u.oneCell' = true) := fun u hu => by simp at hu; rcases hu with rfl | rfl <;> rfl
   have HZ4 : Hid (C + 1 ≤ ((W2.alloc (.cells #[.string nm, .int .i64 ty] 144)).drew).heap.size) := by show _ ≤ _; simp; omega
   have HBk : Hid (∀ i, (Value.slice q ns.length cq).ownBlock = some i → C + 1 ≤ i ∧ i < W2.heap.size) := fun i hi => hrow2.lt i hi
   have HBl2 : Hid (W2.heap[C]? = some (.cells #[fv, mv, .slice q ns.length cq, .int .i64 ((k : Int) + 1)] 96)) := hblk2
   have HB2 : Hid (Below C w W2) := hb2
   have HC2 : Hid (C < W2.heap.size) := hCl2
   have hn12 : ns.length ≤ 12 := by have := HS1.out.le; omega
   have HNk : Hid (ns.length ≤ k) := HS1.out.le
   have HPs : Hid (psC (ns ++ [(nm.data.toList, ty)]) = psC ns ++ [.string nm, .int .i64 ty]) := by
    show _ = _
    have e : str nm.data.toList = .string nm := by
     show Value.string ⟨nm.data.toList.toArray⟩ = .string nm
     simp
    simp [psC, e]
   obtain ⟨n, hn⟩ : ∃ n, n = ns.length := ⟨_, rfl⟩
   have HNn : Hid (n = ns.length) := hn
   rw [← hn] at c2' ca2 HO4 HBk HBl2 hn12 HNk
   clear hk2 hW2 hblk2 hp2 hrow2 hb2 hCl2 c2 c3 p0 p1 f3 HS1 HP1 HB1 hn HS0 HP0 HB0 HF
   go_region_law (refine step_append_lies _ rfl (.tmp 31) (.tmp 33) 65 rfl (C + 1) 144 i0 _ 2 24 Tryz.underlying65 hi0 hz0 hs0 hbb0 rfl (by decide) (.slice q n cq) n (psC ns) (by simp [Act.eval]) HO4.out ⟨W2.heap.size, 0, none⟩ 1 1 [.string nm, .int .i64 ty] (by simp [Act.eval]) rfl HN4.out H14.out (by decide) (by unfold maxLen; omega) (by omega) HZ4.out (W2.heap.size + 1) (by simp) ?_; intro g5 cap5 w5 hown5 hgrow5 hg5 hlt5; have hCb : w5.heap[C]? = some (.cells #[fv, mv, .slice q n cq, .int .i64 ((k : Int) + 1)] 96) := (by rw [hgrow5.block C (by simp; have := HC2.out; omega) (fun e => by have := (HBk.out C e.symm).1; omega)]; exact zc HBl2.out _); have HCb : Hid (w5.heap[C]? = some (.cells #[fv, mv, .slice q n cq, .int .i64 ((k : Int) + 1)] 96)) := hCb; have HO5 : Hid (w5.ownsRow (C + 1) 144 2 (.slice (some ⟨g5, 0, none⟩) (n + 1) cap5) (n + 1) (psC ns ++ [.string nm, .int .i64 ty])) := hown5; have HB5 : Hid (Below C w w5) := ((HB2.out.alloc (by have := HC2.out; omega) _).drew.grown hgrow5 (by simp; have := HC2.out; omega) (fun i e => by have := (HBk.out i e).1; omega)); have HK5 : Hid (Kt w w5) := (HK2.out.trans (zF (by exact ((Below.refl _ _).alloc (Nat.le_refl _) _).drew))).trans (kt_grown hgrow5 HO4.out); have f5 := zb hCb 2; have cc5 := z_ (i := 2) hCb rfl; clear hown5 hgrow5 hg5 hlt5 hCb)
   all_goals
    go_wp2
    go_end0
    refine HG0.out _ _ ⟨.inl ⟨ns ++ [(nm.data.toList, ty)], k + 1, .slice (some ⟨g5, 0, none⟩) (n + 1) cap5, HR.out, rfl, ?_, ?_, ?_, ?_⟩, ?_, ?_⟩
    ·rw [show ((k + 1 : Nat) : Int) = (k : Int) + 1 by omega]
     exact heap_setCell_same _ _ _ _ _ _ HCb.out
    ·have e : (ns ++ [(nm.data.toList, ty)]).length = n + 1 := by rw [HNn.out]; simp
     rw [e, HPs.out]
     exact ownsRow_setCell_below HO5.out (by show C < C + 1; omega) _
    ·have := HNk.out; have := HNn.out; simp; omega
    ·omega
    ·exact HB5.out.setCell (p := ⟨C, 2, none⟩) (Nat.le_refl _) _
    ·exact HK5.out.trans (kt_set HCb.out)
end Go.Proofs.YtnfhpdbbfejioaaGreatDoor
