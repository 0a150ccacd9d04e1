/- The document's run of steps: make, item, walked. -/
import Derived.Test.YtjmbjpimabnohaaDoorUB
import Derived.Deep.RegionLaw
namespace Go.Proofs.YtjmbjpimabnohaaDoor.Mid
set_option linter.unusedVariables false
set_option linter.unusedSimpArgs false
open Go Go.RowKit

theorem Wm.newX {w0 : World} {P : Nat} {w : World} {r : Rr} {d : Nat} {way : Int} (h : Wm w0 P w r d way) {b : Nat} (hb : w.heap.size ≤ b) : ¬ Xw P r b := by
  intro hx
  rcases hx with rfl | hx | hx | hx
  · have := h.ltP; omega
  · obtain ⟨p, hp, rfl⟩ := List.mem_map.1 hx
    obtain ⟨j, hj⟩ := List.getElem?_of_mem hp
    obtain ⟨l, _, _, _, a4⟩ := h.arr j p.1 p.2 hj
    have := (Array.getElem?_eq_some_iff.1 a4).1
    omega
  · have := (h.out.lt b hx).2
    omega
  · have := (h.arrs.lt b hx).2
    omega
def Rr.new1 (r : Rr) (b n : Nat) (av : Value) : Rr := { r with ab := r.ab ++ [(b, n)], av := av, s := { r.s with hp := r.s.hp ++ [List.replicate n 0] } }
/-- What making an array leaves. -/
def MkP (X : Qx) (w : World) (r : Rr) (d : Nat) (n : Int) (e : Ending) (w' : World) : Prop :=
  ((n < 0 ∨ 40 < n) ∧ e = .returned (.int .i64 0) ∧ Wm X.w0 X.P w' r d 4 ∧ Wz X.P NoE w r w' r) ∨ (0 ≤ n ∧ n ≤ 40 ∧ e = .returned (.int .i64 ((r.ab.length : Int) + 1)) ∧ ∃ b av, Wm X.w0 X.P w' (r.new1 b n.toNat av) d 0 ∧ Wz X.P NoE w r w' (r.new1 b n.toNat av))
theorem mk_fin {X : Qx} {w w1 : World} {r : Rr} {d n g cap m : Nat} (h : Wm X.w0 X.P w r d 0) (hm : m = r.ab.length + 1) (hn : n ≤ 40) (W3 : World) (hb3 : Below w.heap.size w W3) (hz3 : W3.heap.size = w.heap.size + 2) (hA : W3.heap[w.heap.size]? = some (.cells (ints (List.replicate n 0)).toArray 2))
    (hown : w1.ownsRow X.w0.heap.size 23 1 (.slice (some ⟨g, 0, none⟩) (m + 1) cap) (m + 1) (arrsC r.ab ++ [.slice (some ⟨w.heap.size, 0, none⟩) n n])) (hgr : W3.grownBy w1 r.av.ownBlock) (hg : r.av.ownBlock = some g ∨ g = w.heap.size + 2) :
    Wm X.w0 X.P (w1.setCell ⟨X.P, 0, none⟩ (.slice (some ⟨g, 0, none⟩) (m + 1) cap)) (r.new1 w.heap.size n (.slice (some ⟨g, 0, none⟩) (m + 1) cap)) d 0 ∧ Wz X.P NoE w r (w1.setCell ⟨X.P, 0, none⟩ (.slice (some ⟨g, 0, none⟩) (m + 1) cap)) (r.new1 w.heap.size n (.slice (some ⟨g, 0, none⟩) (m + 1) cap)) := by
  have hsz1 : w.heap.size + 2 ≤ w1.heap.size := by have := hgr.size; omega
  have hav : ∀ i, r.av.ownBlock = some i → X.w0.heap.size ≤ i ∧ i < w.heap.size := fun i hi => h.arrs.lt i hi
  have hk : ∀ b, b < w.heap.size → r.av.ownBlock ≠ some b → w1.heap[b]? = w.heap[b]? := fun b hb hne => by
    rw [hgr.block b (by omega) (fun e => hne e.symm), hb3.block b hb]
  have hPo : r.av.ownBlock ≠ some X.P := fun e => by
    obtain ⟨cs, hc⟩ := own_ty h.arrs e
    exact h.neP hc (by decide) rfl
  have hP := h.ltP
  have hPg : X.P ≠ g := by
    rcases hg with hg | rfl
    · intro e; exact hPo (by rw [e]; exact hg)
    · omega
  have hP1 : w1.heap[X.P]? = some (.cells (wdC r d 0) 87) := by
    rw [hk X.P h.ltP hPo]
    exact h.pb
  have hoth : ∀ b, b ≠ X.P → (w1.setCell ⟨X.P, 0, none⟩ (.slice (some ⟨g, 0, none⟩) (m + 1) cap)).heap[b]? = w1.heap[b]? := fun b hb => heap_setCell_other _ _ _ _ hb
  have hsz : (w1.setCell ⟨X.P, 0, none⟩ (.slice (some ⟨g, 0, none⟩) (m + 1) cap)).heap.size = w1.heap.size := by simp
  have hX := h.newX (Nat.le_refl w.heap.size)
  have hmap : (r.new1 w.heap.size n (.slice (some ⟨g, 0, none⟩) (m + 1) cap)).ab.map (·.1) = r.ab.map (·.1) ++ [w.heap.size] := by simp [Rr.new1]
  have hty : ∀ b cs, w.heap[b]? = some (.cells cs 2) → r.av.ownBlock ≠ some b := fun b cs hb e => by
    obtain ⟨ds, hd⟩ := own_ty h.arrs e
    exact absurd (ty_ne hb hd) (by decide)
  refine ⟨⟨h.lo0, by rw [hsz]; have := h.le; omega, fun b h1 => ?_, ?_, h.inp, ?_, ?_, ?_, ?_, ?_, ?_, ?_, h.few, h.told, h.deep⟩, ⟨hgr.os.trans hb3.os, hgr.tape.trans hb3.tape, hgr.output.trans hb3.output, by rw [hsz]; omega, fun b hb hx _ => ?_, ⟨[(w.heap.size, n)], rfl⟩, fun b hx hnx => ?_⟩⟩
  · rw [hoth b (by have := h.lo0; omega), hk b (Nat.lt_of_lt_of_le h1 h.le) (fun e => by have := (hav _ e).1; omega)]
    exact h.kp b h1
  · exact heap_setCell_same _ _ _ _ _ _ hP1
  · refine own_at h.out (fun i hi => ?_)
    obtain ⟨cs, hc⟩ := own_ty h.out hi
    rw [hoth i (h.neP hc (by decide)), hk i (own_lt h.out i hi) (hty i cs hc)]
  · have e1 : arrsC (r.new1 w.heap.size n (.slice (some ⟨g, 0, none⟩) (m + 1) cap)).ab = arrsC r.ab ++ [.slice (some ⟨w.heap.size, 0, none⟩) n n] := by simp [Rr.new1, arrsC]
    have e2 : (r.new1 w.heap.size n (.slice (some ⟨g, 0, none⟩) (m + 1) cap)).ab.length + 1 = m + 1 := by simp [Rr.new1]; omega
    rw [e1, e2]
    exact own_at hown (fun i hi => hoth i (fun e => hPg (by rw [← e]; injection hi with hi; exact hi.symm)))
  · intro i hi hmem
    rw [hmap] at hmem
    rcases List.mem_append.1 hmem with hmem | hmem
    · exact h.apart i hi hmem
    · rw [List.mem_singleton] at hmem
      subst hmem
      exact hX (.inr (.inr (.inl hi)))
  · show (r.ab ++ _).length = (r.s.hp ++ _).length
    simp [h.alen]
  · intro i b k hi
    have hi' : (r.ab ++ [(w.heap.size, n)])[i]? = some (b, k) := hi
    show ∃ l, (r.s.hp ++ [List.replicate n 0])[i]? = some l ∧ _
    rcases Nat.lt_or_ge i r.ab.length with hlt | hge
    · rw [List.getElem?_append_left hlt] at hi'
      obtain ⟨l, a1, a2, a3, a4⟩ := h.arr i b k hi'
      refine ⟨l, by rw [List.getElem?_append_left (by rw [← h.alen]; exact hlt)]; exact a1, a2, a3, ?_⟩
      rw [hoth b (h.neP a4 (by decide)), hk b (Array.getElem?_eq_some_iff.1 a4).1 (hty b _ a4)]
      exact a4
    · rw [List.getElem?_append_right hge] at hi'
      have e0 : i - r.ab.length = 0 := by
        rcases Nat.eq_zero_or_pos (i - r.ab.length) with e | e
        · exact e
        · rw [List.getElem?_eq_none (by simp; omega)] at hi'; cases hi'
      rw [e0] at hi'
      have e1 : (w.heap.size, n) = (b, k) := by simpa using hi'
      injection e1 with e1 e2
      subst e1
      subst e2
      refine ⟨List.replicate n 0, ?_, by simp, hn, ?_⟩
      · rw [List.getElem?_append_right (by rw [← h.alen]; exact hge), ← h.alen, e0]
        rfl
      · rw [hoth _ (by omega), hgr.block _ (by omega) (fun e => by have := (hav _ e.symm).2; omega)]
        exact hA
  · intro b hmem
    rw [hmap] at hmem
    rcases List.mem_append.1 hmem with hmem | hmem
    · exact h.lo b hmem
    · rw [List.mem_singleton] at hmem
      subst hmem
      exact h.le
  · rw [hmap]
    refine List.nodup_append.2 ⟨h.nd, by simp, fun a ha b hb e => ?_⟩
    rw [List.mem_singleton] at hb
    subst hb
    subst e
    exact hX (.inr (.inl ha))
  · rw [hoth b (fun e => hx (.inl e)), hk b hb (fun e => hx (.inr (.inr (.inr e))))]
  · rcases hx with hx | hx | hx | hx
    · exact absurd (.inl hx) hnx
    · rw [hmap] at hx
      rcases List.mem_append.1 hx with hx | hx
      · exact absurd (.inr (.inl hx)) hnx
      · rw [List.mem_singleton] at hx
        omega
    · exact absurd (.inr (.inr (.inl hx))) hnx
    · have e : b = g := by injection hx with hx; exact hx.symm
      subst e
      rcases hg with hg | rfl
      · exact absurd (.inr (.inr (.inr hg))) hnx
      · omega
theorem info23 : (Tryd.prog.info? 23).map (fun i => (i.zero, i.size, i.bytes)) = some (some (.slice none 0 0), 1, 24) := by kernel_rfl
theorem und85 : Tryd.prog.underlying 85 = some (.slice 23) := Tryd.underlying85
set_option maxRecDepth 100000 in
set_option maxHeartbeats 4000000 in
theorem make_any (X : Qx) (w : World) (r : Rr) (d : Nat) (n : Int) (h : Wm X.w0 X.P w r d 0) (hc : r.ab.length ≤ 10000000) : Calls Tryd.prog 60 #[ptr X.P, .int .i64 n] w (MkP X w r d n) := by
  obtain ⟨q, c, hov⟩ := own_slice h.arrs
  have c0 : w.cell? ⟨X.P, 0, none⟩ = some r.av := cell_at (i := 0) h.pb rfl
  have f0 := row_free h.pb 0
  rw [hov] at c0
  have HH : Hid (Wm X.w0 X.P w r d 0) := h
  have HEn : Hid (Calls Tryd.prog 59 #[ptr X.P, .int .i64 4] w (EnP X w r d 4)) := ends_any X w r d 0 4 h
  obtain ⟨m, hm⟩ : ∃ m, m = r.ab.length + 1 := ⟨_, rfl⟩
  have HM : Hid (m = r.ab.length + 1) := hm
  have HV : Hid (r.av = .slice q m c) := by rw [hm]; exact hov
  rw [← hm] at c0
  have hm2 : m ≤ 10000001 := by omega
  have HO : Hid (w.ownsRow X.w0.heap.size 23 1 (.slice q m c) m (arrsC r.ab)) := by have := h.arrs; rw [hov, ← hm] at this; exact this
  have hP := h.ltP
  generalize hG : MkP X w r d n = G
  have HG : Hid (MkP X w r d n = G) := hG
  clear h hov hm hG hc
  by_cases h0 : n < 0 ∨ 40 < n
  · have HC : Hid (∀ W, Calls Tryd.prog 25 #[.int .i64 n, .int .i64 0, .int .i64 40] W (LqP false W)) := fun W => by
      have := in_any n 0 40 W
      have e : inB n 0 40 = false := decide_eq_false (by omega)
      rw [e] at this
      exact this
    go_enter Tryd.func60, Tryd.ntmps60
    go_wp2_with (first | (go_at_call 25; refine (HC.out _).mono ?_; rintro e w' ⟨rfl, rfl⟩) | (go_at_call 59; fail))
    refine HEn.out.mono ?_
    rintro e w1 ⟨rfl, h1, h3⟩
    have HX : Hid (G (.returned (.int .i64 0)) w1) := by show G _ _; rw [← HG.out]; exact .inl ⟨h0, rfl, h1, h3⟩
    clear h1 h3
    go_wp2
    exact HX.out
  · obtain ⟨k, rfl⟩ : ∃ k : Nat, n = k := ⟨n.toNat, by omega⟩
    have hk : k ≤ 40 := by omega
    have HC : Hid (∀ W, Calls Tryd.prog 25 #[.int .i64 (k : Int), .int .i64 0, .int .i64 40] W (LqP true W)) := fun W => by
      have := in_any (k : Int) 0 40 W
      have e : inB (k : Int) 0 40 = true := decide_eq_true (by omega)
      rw [e] at this
      exact this
    have hmk := mk_ints k hk
    obtain ⟨i0, hi0, hz0, hs0, hb0⟩ := info_parts info23
    obtain ⟨W3, hW3⟩ : ∃ W3, W3 = ((w.alloc (.cells (Array.replicate k (.int .i64 0)) 2)).alloc (.cells #[.slice (some ⟨w.heap.size, 0, none⟩) k k] 23)).drew := ⟨_, rfl⟩
    have HB3 : Hid (Below w.heap.size w W3) := by rw [hW3]; exact (((Below.refl w.heap.size w).alloc (by simp) _).alloc (by simp) _).drew
    have HZ3 : Hid (W3.heap.size = w.heap.size + 2) := by show _ = _; rw [hW3]; simp
    have HA3 : Hid (W3.heap[w.heap.size]? = some (.cells (ints (List.replicate k 0)).toArray 2)) := by
      have e : (ints (List.replicate k 0)).toArray = Array.replicate k (Value.int .i64 0) := by simp [ints]
      rw [hW3, e]
      exact al_first (w := w)
    have HO3 : Hid (((w.alloc (.cells (Array.replicate k (.int .i64 0)) 2)).alloc (.cells #[.slice (some ⟨w.heap.size, 0, none⟩) k k] 23)).drew.ownsRow X.w0.heap.size 23 1 (.slice q m c) m (arrsC r.ab)) := by rw [← hW3]; exact own_at HO.out (fun i hi => HB3.out.block i (own_lt HO.out i hi))
    have HN3 : Hid (∀ (i : Nat) (x : Value), ([.slice (some ⟨w.heap.size, 0, none⟩) k k] : List Value)[i]? = some x → ((w.alloc (.cells (Array.replicate k (.int .i64 0)) 2)).alloc (.cells #[.slice (some ⟨w.heap.size, 0, none⟩) k k] 23)).drew.cell? ((⟨w.heap.size + 1, 0, none⟩ : Addr).add i) = some x) := World.news_of_block (cs := #[.slice (some ⟨w.heap.size, 0, none⟩) k k]) (t := 23) (fr := (0, 0)) (al_last (w := w))
    have H13 : Hid (∀ u ∈ ([.slice (some ⟨w.heap.size, 0, none⟩) k k] : List Value), u.oneCell' = true) := fun u hu => by simp at hu; subst hu; rfl
    have HZ4 : Hid (X.w0.heap.size ≤ ((w.alloc (.cells (Array.replicate k (.int .i64 0)) 2)).alloc (.cells #[.slice (some ⟨w.heap.size, 0, none⟩) k k] 23)).drew.heap.size) := by have := HH.out.le; show _ ≤ _; simp; omega
    have HFin : Hid (∀ g5 cap5 w5, w5.ownsRow X.w0.heap.size 23 1 (.slice (some ⟨g5, 0, none⟩) (m + 1) cap5) (m + 1) (arrsC r.ab ++ [.slice (some ⟨w.heap.size, 0, none⟩) k k]) → ((w.alloc (.cells (Array.replicate k (.int .i64 0)) 2)).alloc (.cells #[.slice (some ⟨w.heap.size, 0, none⟩) k k] 23)).drew.grownBy w5 (Value.slice q m c).ownBlock → ((Value.slice q m c).ownBlock = some g5 ∨ g5 = w.heap.size + 2) → (w5.heap[X.P]? = some (.cells (wdC r d 0) 87)) ∧ G (.returned (.int .i64 (m : Int))) (w5.setCell ⟨X.P, 0, none⟩ (.slice (some ⟨g5, 0, none⟩) (m + 1) cap5))) := fun g5 cap5 w5 a1 a2 a3 => by
      rw [← hW3] at a2
      have hPo : r.av.ownBlock ≠ some X.P := fun e => by
        obtain ⟨cs, hc⟩ := own_ty HH.out.arrs e
        exact HH.out.neP hc (by decide) rfl
      refine ⟨?_, ?_⟩
      · rw [a2.block X.P (by rw [HZ3.out]; omega) (fun e => hPo (by rw [HV.out]; exact e.symm)), HB3.out.block _ hP]
        exact HH.out.pb
      · rw [← HG.out]
        obtain ⟨b1, b2⟩ := mk_fin HH.out HM.out hk W3 HB3.out HZ3.out HA3.out a1 (by rw [HV.out]; exact a2) (by rw [HV.out]; exact a3)
        refine .inr ⟨by omega, by omega, by rw [HM.out]; simp, w.heap.size, .slice (some ⟨g5, 0, none⟩) (m + 1) cap5, ?_, ?_⟩
        · rw [Int.toNat_natCast]; exact b1
        · rw [Int.toNat_natCast]; exact b2
    clear hW3 h0
    go_enter Tryd.func60, Tryd.ntmps60
    go_wp2_with (go_at_call 25; refine (HC.out _).mono ?_; rintro e w' ⟨rfl, rfl⟩)
    go_region_law (refine step_append_lies _ rfl (.tmp 14) (.tmp 17) 85 rfl X.w0.heap.size 23 i0 _ 1 24 und85 hi0 hz0 hs0 hb0 rfl (by decide) (.slice q m c) m (arrsC r.ab) (by simp [Act.eval]) HO3.out ⟨w'.heap.size + 1, 0, none⟩ 1 1 [.slice (some ⟨w'.heap.size, 0, none⟩) k k] (by simp [Act.eval]) rfl HN3.out H13.out (by decide) (by unfold maxLen; omega) (by omega) HZ4.out (w'.heap.size + 2) (by simp) ?_; intro g5 cap5 w5 hown5 hgrow5 hg5 hlt5; obtain ⟨hP5, hG5⟩ := HFin.out g5 cap5 w5 hown5 hgrow5 hg5; have HX5 : Hid (G (.returned (.int .i64 (m : Int))) (w5.setCell ⟨X.P, 0, none⟩ (.slice (some ⟨g5, 0, none⟩) (m + 1) cap5))) := hG5; have c5 : w5.cell? ⟨X.P, 0, none⟩ = some r.av := cell_at (i := 0) hP5 rfl; have f5 := row_free hP5 0; clear hown5 hgrow5 hg5 hlt5 hP5 hG5)
    all_goals
      go_wp2
      exact HX5.out
end Go.Proofs.YtjmbjpimabnohaaDoor.Mid
