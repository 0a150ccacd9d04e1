/- CH -/
import Derived.Test.YtnfhpdbbfejioaaGreatDoorQ38
namespace Go.Proofs.YtnfhpdbbfejioaaGreatDoor
set_option linter.unusedVariables false
set_option linter.unusedSimpArgs false
set_option maxRecDepth 100000
set_option maxHeartbeats 4000000
open Go Go.RowKit
def blkV (lk : By → Option Nm) (g : Tr) (s : Nm × Nat) : X (Nm × Nat) := bx (cks lk g s) fun s' => .ok (s.1, s'.2)
def StC (t : Tr) : Prop := ∀ (w : World) (C : Nat) (fv mv nv : Value) (fs : List Fun) (ns : Nm) (k : Nat) (cs : Array Value), CkS w C fv mv nv ns k → FxS w C fv mv fs → StAt (Lo C) w (cc t ce) cs.toList → Calls Tryz.prog 103 #[.pointer (some ⟨C, 0, none⟩), .agg cs] w (CkP (cks (lkL fs) (cc t ce) (ns, k)) C fv mv w)
def BlC (g : Tr) : Prop := ∀ (w : World) (C : Nat) (fv mv nv : Value) (fs : List Fun) (ns : Nm) (k : Nat) (v : Value) (n : Nat) (cs : List Value), CkS w C fv mv nv ns k → FxS w C fv mv fs → RowS (Lo C) w 147 7 v n cs → StAt (Lo C) w g cs → Calls Tryz.prog 66 #[.pointer (some ⟨C, 0, none⟩), v] w (CkP (blkV (lkL fs) g (ns, k)) C fv mv w)
theorem cks_ce (lk : By → Option Nm) (s : Nm × Nat) : cks lk ce s = .ok s := by
 rw [cks]
 all_goals simp
theorem cks_cc (lk : By → Option Nm) (c a : Int) (nm : By) (ix v th el g : Tr) (s : Nm × Nat) : cks lk (cc (st c a nm ix v th el) g) s = bx (cks lk (cc (st c a nm ix v th el) ce) s) fun s' => cks lk g s' := by
 rw [cks, cks, qB]
 congr 1
def IsSt (t : Tr) : Prop := ∃ c a nm ix v th el, t = st c a nm ix v th el
theorem cks_st {t : Tr} (h : IsSt t) (lk : By → Option Nm) (g : Tr) (s : Nm × Nat) : cks lk (cc t g) s = bx (cks lk (cc t ce) s) fun s' => cks lk g s' := by
 obtain ⟨c, a, nm, ix, v, th, el, rfl⟩ := h
 exact cks_cc lk c a nm ix v th el g s
theorem add_pre {s s' : Nm × Nat} {v : By × Int} {a : Int} (h : addV s v a = .ok s') : ∃ ex, s'.1 = s.1 ++ ex := by
 unfold addV at h
 split at h
 ·cases h
 ·split at h
  ·cases h
  ·injection h with h
   subst h
   exact ⟨[v], rfl⟩
theorem st_pre {t : Tr} (h : IsSt t) (lk : By → Option Nm) (s s' : Nm × Nat) (hr : cks lk (cc t ce) s = .ok s') : ∃ ex, s'.1 = s.1 ++ ex := by
 obtain ⟨c, a, nm, ix, v, th, el, rfl⟩ := h
 rw [cks] at hr
 obtain ⟨s1, h1, h2⟩ := zP hr
 rw [show cks lk (.slice [] []) s1 = cks lk ce s1 from rfl, cks_ce] at h2
 injection h2 with h2
 subst h2
 split at h1
 ·obtain ⟨t, _, h3⟩ := zP h1
  exact add_pre h3
 ·split at h1
  ·split at h1
   ·cases h1
   ·obtain ⟨_, _, h3⟩ := zP h1
    injection h3 with h3
    subst h3
    exact ⟨[], by simp⟩
  ·split at h1
   ·split at h1
    ·cases h1
    ·split at h1
     ·cases h1
     ·obtain ⟨_, _, h3⟩ := zP h1
      obtain ⟨_, _, h4⟩ := zP h3
      injection h4 with h4
      subst h4
      exact ⟨[], by simp⟩
   ·obtain ⟨_, _, h3⟩ := zP h1
    obtain ⟨_, _, h4⟩ := zP h3
    obtain ⟨_, _, h5⟩ := zP h4
    injection h5 with h5
    subst h5
    exact ⟨[], by simp⟩
theorem own_take {w : World} {B e z n c m : Nat} {q : Option Addr} {cs : List Value} (h : w.ownsRow B e z (.slice q n c) n cs) (hm : m ≤ n) : w.ownsRow B e z (.slice q m c) m (cs.take (m * z)) := by
 have hl := h.1
 refine ⟨by rw [List.length_take, hl]; exact Nat.min_eq_left (Nat.mul_le_mul_right z hm), ?_⟩
 rcases h.2 with ⟨e1, e2⟩ | ⟨g, cap, cur, e1, e2, e3, e4, e5, e6, e7⟩
 ·injection e1 with a1 a2 a3
  subst a1
  subst a3
  have : m = 0 := by omega
  subst this
  exact .inl ⟨rfl, rfl⟩
 ·injection e1 with a1 a2 a3
  subst a1
  subst a3
  refine .inr ⟨g, c, cur, rfl, e2, e3, by omega, e5, e6, ?_⟩
  rw [← e7, List.take_take]
  congr 1
  exact (Nat.min_eq_left (Nat.mul_le_mul_right z hm)).symm
theorem own_cap {w : World} {B e z n c : Nat} {q : Option Addr} {cs : List Value} (h : w.ownsRow B e z (.slice q n c) n cs) : n ≤ c := by
 rcases h.2 with ⟨e1, e2⟩ | ⟨g, cap, cur, e1, _, _, e4, _⟩
 ·injection e1 with a1 a2 a3
  omega
 ·injection e1 with a1 a2 a3
  omega
theorem size_83 (w : World) : (sizeOf (Tryz.prog.elem 65)).run Tryz.prog w = .ok 2 w := by kernel_rfl
theorem elem38 : Tryz.prog.underlying 65 = some (.slice (Tryz.prog.elem 65)) := by kernel_rfl
theorem slice_low (q : Option Addr) (n c m : Nat) (w : World) (h : m ≤ c) : (Instr.slice 65 (.slice q n c) none (some (.int .i64 (m : Int))) none).run Tryz.prog w = .ok (.slice q m c) w := by
 rw [run_slice_h w 65 q n c elem38 .i64 (m : Int) (by omega) (by omega), size_83]
 show Result.ok (sliced q 0 (m : Int).toNat c 2) w = _
 unfold sliced
 have e : q.map (·.add (0 * 2)) = q := by cases q <;> simp [Addr.add]
 rw [e]
 simp
theorem psC_take (ns ex : Nm) : (psC (ns ++ ex)).take (ns.length * 2) = psC ns := by
 have e : psC (ns ++ ex) = psC ns ++ psC ex := by simp [psC]
 have l : (psC ns).length = ns.length * 2 := by
  induction ns with
  | nil => rfl
  | cons x ns ih => simp [psC] at ih ⊢; omega
 rw [e, ← l, List.take_left]
theorem block_of {xs : List Tr} (IH : ∀ x ∈ xs, StC x ∧ IsSt x) (hx6 : xs.length ≤ 1000000) : BlC (chain xs) := by
 intro w C fv mv nv fs ns k v n cs hs hf hr hst
 obtain ⟨q, c, rfl⟩ := ze hr.1
 obtain ⟨qn, cn, rfl⟩ := ze hs.row
 have HOp := sts_open xs cs hst
 have hn : n = xs.length := by have h1 := HOp.1; have h2 := hr.1.1; omega
 have HNn : Hid (n = xs.length) := hn
 have hn6 : n ≤ 1000000 := by omega
 have HO : Hid (∀ (i : Nat) (x : Tr), xs[i]? = some x → ∃ (n0 n1 : Int) (y2 : ByteArray) (p3 p4 : Option Addr) (s5 : Option Addr) (m5 c5 : Nat) (s6 : Option Addr) (m6 c6 : Nat), StAt (Lo C) w (cc x ce) (#[.int .i64 n0, .int .i64 n1, .string y2, .pointer p3, .pointer p4, .slice s5 m5 c5, .slice s6 m6 c6] : Array Value).toList ∧ ∀ j u, (#[.int .i64 n0, .int .i64 n1, .string y2, .pointer p3, .pointer p4, .slice s5 m5 c5, .slice s6 m6 c6] : Array Value)[j]? = some u → cs[i * 7 + j]? = some u) := HOp.2
 have HS : Hid (CkS w C fv mv (.slice qn ns.length cn) ns k) := hs
 have HF : Hid (FxS w C fv mv fs) := hf
 have HR : Hid (RowS (Lo C) w 147 7 (.slice q n c) n cs) := hr
 have HIH : Hid (∀ x ∈ xs, StC x ∧ IsSt x) := IH
 have d2 := z_ (i := 2) hs.blk rfl
 have HG0 : Hid (∀ e w', CkP (blkV (lkL fs) (chain xs) (ns, k)) C fv mv w e w' → CkP (blkV (lkL fs) (chain xs) (ns, k)) C fv mv w e w') := fun _ _ h => h
 generalize hG : CkP (blkV (lkL fs) (chain xs) (ns, k)) C fv mv w = G at *
 clear HG0
 have HG0 : Hid (∀ e w', CkP (blkV (lkL fs) (chain xs) (ns, k)) C fv mv w e w' → G e w') := fun e w' h => by rw [← hG]; exact h
 have hns12 : ns.length ≤ 12 := by have := hs.le; have := hs.k12; omega
 obtain ⟨m, hm⟩ : ∃ m, m = ns.length := ⟨_, rfl⟩
 have HM : Hid (m = ns.length) := hm
 rw [← hm] at d2 hns12 HS
 clear IH hx6 hs hf hr hst HOp hn hG hm
 go_enter Tryz.func66, Tryz.ntmps66
 go_wp2_with fail
 go_loopw [14] (fun v wr => ∃ i : Nat, i ≤ n ∧ v = .int .i64 i ∧ Hid (∃ (ns1 : Nm) (k1 : Nat) (nv1 : Value) (ex : Nm), ns1 = ns ++ ex ∧ cks (lkL fs) (chain xs) (ns, k) = cks (lkL fs) (chain (xs.drop i)) (ns1, k1) ∧ CkS wr C fv mv nv1 ns1 k1 ∧ Below C w wr ∧ Kt w wr)) (fun v _ => n - (intOf v).toNat)
 case atStart => exact ⟨0, Nat.zero_le _, rfl, ns, k, .slice qn m cn, [], by simp, by simp, HS.out, Below.refl _ _, fun _ _ _ _ _ h => h⟩
 case round =>
  obtain ⟨i, hin, rfl, HI⟩ := hrel
  obtain ⟨ns1, k1, nv1, ex, hns1, hck, hS1, hB1, hK1⟩ := HI.out
  have HK1 : Hid (Kt w wr) := hK1
  have HB1 : Hid (Below C w wr) := hB1
  have HS1 : Hid (CkS wr C fv mv nv1 ns1 k1) := hS1
  have HCk : Hid (cks (lkL fs) (chain xs) (ns, k) = cks (lkL fs) (chain (xs.drop i)) (ns1, k1)) := hck
  have HEx : Hid (ns1 = ns ++ ex) := hns1
  clear HI hns1 hck hS1 hB1 hK1
  by_cases hlt : i < n
  ·obtain ⟨g, cap, e, -, -⟩ := HR.out.1.form (by omega)
   injection e with e1 e2 e3
   subst e1
   clear e2 e3
   obtain ⟨x, hx⟩ : ∃ x, xs[i]? = some x := ⟨xs[i]'(by have := HNn.out; omega), List.getElem?_eq_getElem (by have := HNn.out; omega)⟩
   obtain ⟨n0, n1, y2, p3, p4, s5, m5, c5, s6, m6, c6, hsx, hcs⟩ := HO.out i x hx
   have hrow := (HR.out.kept (zg HB1.out) (by decide)).1
   have hc : ∀ j u, (#[.int .i64 n0, .int .i64 n1, .string y2, .pointer p3, .pointer p4, .slice s5 m5 c5, .slice s6 m6 c6] : Array Value)[j]? = some u → wr.cell? ⟨g, i * 7 + j, none⟩ = some u := fun j u hu => by
    have := hrow.cells (g := g) rfl (i * 7 + j) u (hcs j u hu)
    rw [zL] at this
    exact this
   have q0 := hc 0 _ rfl
   have q1 := hc 1 _ rfl
   have q2 := hc 2 _ rfl
   have q3 := hc 3 _ rfl
   have q4 := hc 4 _ rfl
   have q5 := hc 5 _ rfl
   have q6 := hc 6 _ rfl
   rw [Nat.add_zero] at q0
   obtain ⟨hstc, hist⟩ := HIH.out x (List.mem_of_getElem? hx)
   have hbW : Below wr.heap.size wr (wr.alloc (.cells #[.int .i64 n0, .int .i64 n1, .string y2, .pointer p3, .pointer p4, .slice s5 m5 c5, .slice s6 m6 c6] 147)) := (Below.refl _ _).alloc (Nat.le_refl _) _
   have hbC : Below C w (wr.alloc (.cells #[.int .i64 n0, .int .i64 n1, .string y2, .pointer p3, .pointer p4, .slice s5 m5 c5, .slice s6 m6 c6] 147)) := HB1.out.alloc (Nat.le_of_lt HS1.out.lt) _
   have HCall : Hid (Calls Tryz.prog 103 #[.pointer (some ⟨C, 0, none⟩), .agg #[.int .i64 n0, .int .i64 n1, .string y2, .pointer p3, .pointer p4, .slice s5 m5 c5, .slice s6 m6 c6]] (wr.alloc (.cells #[.int .i64 n0, .int .i64 n1, .string y2, .pointer p3, .pointer p4, .slice s5 m5 c5, .slice s6 m6 c6] 147)) (CkP (cks (lkL fs) (cc x ce) (ns1, k1)) C fv mv (wr.alloc (.cells #[.int .i64 n0, .int .i64 n1, .string y2, .pointer p3, .pointer p4, .slice s5 m5 c5, .slice s6 m6 c6] 147)))) :=
    hstc _ C fv mv nv1 fs ns1 k1 _ (HS1.out.below hbW) (HF.out.below hbC) (StAt.kept (zg hbC) _ _ hsx)
   have HKC : Hid (∀ w', Kt (wr.alloc (.cells #[.int .i64 n0, .int .i64 n1, .string y2, .pointer p3, .pointer p4, .slice s5 m5 c5, .slice s6 m6 c6] 147)) w' → Kt w w') := fun w' hk => (HK1.out.trans (zF hbW)).trans hk
   have HBC : Hid (∀ w', Below C (wr.alloc (.cells #[.int .i64 n0, .int .i64 n1, .string y2, .pointer p3, .pointer p4, .slice s5 m5 c5, .slice s6 m6 c6] 147)) w' → Below C w w') := fun w' hb => hbC.trans hb
   have HSt : Hid (cks (lkL fs) (chain (xs.drop i)) (ns1, k1) = bx (cks (lkL fs) (cc x ce) (ns1, k1)) fun s' => cks (lkL fs) (chain (xs.drop (i + 1))) s') := by
    show _ = _
    have e1 : xs.drop i = x :: xs.drop (i + 1) := by
     rw [List.drop_eq_getElem_cons (by have := HNn.out; omega)]
     congr 1
     have := List.getElem?_eq_getElem (l := xs) (i := i) (by have := HNn.out; omega)
     rw [hx] at this
     exact (Option.some.inj this).symm
    rw [e1]
    exact cks_st hist (lkL fs) (chain (xs.drop (i + 1))) (ns1, k1)
   have HPre : Hid (∀ s', cks (lkL fs) (cc x ce) (ns1, k1) = .ok s' → ∃ ex, s'.1 = ns1 ++ ex) := fun s' h => st_pre hist _ _ _ h
   clear hrow hc hcs hsx hx hstc hist hbW hbC
   go_wp2_with (go_at_call 103; fail)
   refine HCall.out.mono ?_
   rintro e w2 ⟨⟨ns2, k2, nv2, hr, rfl, hs2⟩ | ⟨kk, aa, hr, b1, rfl, hb1⟩, hw, hkt⟩
   ·have HI2 : Hid (∃ (ns1 : Nm) (k1 : Nat) (nv1 : Value) (ex : Nm), ns1 = ns ++ ex ∧ cks (lkL fs) (chain xs) (ns, k) = cks (lkL fs) (chain (xs.drop (i + 1))) (ns1, k1) ∧ CkS w2 C fv mv nv1 ns1 k1 ∧ Below C w w2 ∧ Kt w w2) := by
     obtain ⟨ex2, he2⟩ := HPre.out _ hr
     refine ⟨ns2, k2, nv2, ex ++ ex2, ?_, ?_, hs2, HBC.out _ hw, HKC.out _ hkt⟩
     ·have : ns2 = ns1 ++ ex2 := he2
      rw [this, HEx.out, List.append_assoc]
     ·rw [HCk.out, HSt.out, hr]
      rfl
    clear hr hs2 hw hkt q0 q1 q2 q3 q4 q5 q6
    go_wp2
    exact ⟨⟨i + 1, by omega, by go_num, HI2⟩, by simp [intOf]; omega⟩
   ·refine ⟨rfl, HG0.out _ _ ⟨.inr ⟨kk, aa, ?_, b1, rfl, hb1⟩, HBC.out _ hw, HKC.out _ hkt⟩⟩
    unfold blkV
    rw [HCk.out, HSt.out, hr]
    rfl
  ·obtain rfl : i = n := by omega
   have HE : Hid (blkV (lkL fs) (chain xs) (ns, k) = .ok (ns, k1)) := by
    show _ = _
    unfold blkV
    rw [HCk.out, List.drop_of_length_le (by have := HNn.out; omega), show chain [] = ce from rfl, cks_ce]
    rfl
   have hS1 := HS1.out
   obtain ⟨q1, c1, rfl⟩ := ze hS1.row
   have d2' := z_ (i := 2) hS1.blk rfl
   have f2 := zb hS1.blk 2
   have hmle : m ≤ ns1.length := by rw [HM.out, HEx.out]; simp
   have htk := own_take hS1.row hmle
   have hcap : ns1.length ≤ c1 := own_cap hS1.row
   have hsl : ∀ wx : World, (Instr.slice 65 (.slice q1 ns1.length c1) none (some (.int .i64 (m : Int))) none).run Tryz.prog wx = .ok (.slice q1 m c1) wx := fun wx => slice_low q1 _ c1 m wx (by omega)
   have HTk : Hid (wr.ownsRow (C + 1) 144 2 (.slice q1 m c1) m ((psC ns1).take (m * 2))) := htk
   have HPs : Hid ((psC ns1).take (m * 2) = psC ns) := by show _ = _; rw [HEx.out, HM.out, psC_take]
   have HLe : Hid (m ≤ k1 ∧ k1 ≤ 12) := ⟨by have := hS1.le; omega, hS1.k12⟩
   have HBl : Hid (wr.heap[C]? = some (.cells #[fv, mv, .slice q1 ns1.length c1, .int .i64 (k1 : Int)] 96)) := hS1.blk
   generalize ns1.length = n1 at *
   clear hlt hS1 htk hcap hmle
   go_wp2
   go_end0
   refine HG0.out _ _ ⟨.inl ⟨ns, k1, .slice q1 m c1, HE.out, rfl, ?_, ?_, ?_, ?_⟩, ?_, ?_⟩
   ·exact heap_setCell_same _ _ _ _ _ _ HBl.out
   ·rw [← HM.out, ← HPs.out]
    exact ownsRow_setCell_below HTk.out (by show C < C + 1; omega) _
   ·rw [← HM.out]; exact HLe.out.1
   ·exact HLe.out.2
   ·exact HB1.out.setCell (p := ⟨C, 2, none⟩) (Nat.le_refl _) _
   ·exact HK1.out.trans (kt_set HBl.out)
end Go.Proofs.YtnfhpdbbfejioaaGreatDoor
