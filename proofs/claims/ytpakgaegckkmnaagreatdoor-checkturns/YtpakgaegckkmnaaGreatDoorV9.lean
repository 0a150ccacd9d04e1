/- printBlock walked. -/
import Derived.Test.YtpakgaegckkmnaaGreatDoorV8
namespace Go.Proofs.YtpakgaegckkmnaaGreatDoor
set_option linter.unusedVariables false
set_option linter.unusedSimpArgs false
open Go Go.RowKit

/-- printStmt of a statement does what the model says. -/
def PsC (t : Tr) : Prop := ∀ (S : Nat → Prop) (B b : Nat) (s : By) (w : World) (lf : ByteArray) (cs : Array Value), EnvW B w → Bd B b s w → StAt S w (cc t ce) cs.toList → s.length + (smT lf.data.toList t).length ≤ 100000000000 → Calls Tryz.prog 32 #[.pointer (some ⟨b, 0, none⟩), .agg cs, .string lf] w (WPost B b s (smT lf.data.toList t) w)

theorem add_plain' (g k : Nat) : (⟨g, 0, none⟩ : Addr).add k = ⟨g, k, none⟩ := by
  by_cases h : k = 0
  · subst h; simp [Addr.add]
  · simp [Addr.add, h]
/-- Statements, one by one: the i-th one's cells. -/
theorem sts_open {S : Nat → Prop} {w : World} : ∀ (xs : List Tr) (cs : List Value), StAt S w (chain xs) cs → cs.length = xs.length * 7 ∧ ∀ (i : Nat) (x : Tr), xs[i]? = some x → ∃ (n0 n1 : Int) (y2 : ByteArray) (p3 p4 : Option Addr) (s5 : Option Addr) (m5 c5 : Nat) (s6 : Option Addr) (m6 c6 : Nat), StAt S w (cc x ce) (#[.int .i64 n0, .int .i64 n1, .string y2, .pointer p3, .pointer p4, .slice s5 m5 c5, .slice s6 m6 c6] : Array Value).toList ∧ ∀ j u, (#[.int .i64 n0, .int .i64 n1, .string y2, .pointer p3, .pointer p4, .slice s5 m5 c5, .slice s6 m6 c6] : Array Value)[j]? = some u → cs[i * 7 + j]? = some u
  | [], cs, h => by
    have h' : StAt S w (.slice [] []) cs := h
    rw [StAt] at h'
    subst h'
    exact ⟨rfl, fun i x hx => by simp at hx⟩
  | x :: xs, cs, h => by
    have h' : StAt S w (.slice [x] [chain xs]) cs := h
    unfold StAt at h'
    split at h'
    · rename_i k1 c k2 a nm ix v th el g heq
      obtain ⟨vi, vv, vt, ve, nt, ne, ts, es, rest, e, a1, a2, a3, a4, a5, a6, a7⟩ := h'
      injection heq with h1 h2
      injection h1 with h1 _
      injection h2 with h2 _
      subst h2
      subst h1
      subst e
      obtain ⟨q5, c5, rfl⟩ := own_slice a3.1
      obtain ⟨q6, c6, rfl⟩ := own_slice a5.1
      obtain ⟨hl, hi⟩ := sts_open xs rest a7
      refine ⟨by simp [hl]; omega, fun i y hy => ?_⟩
      cases i with
      | zero =>
        simp at hy
        subst hy
        refine ⟨c, a, ⟨nm.toArray⟩, vi, vv, q5, nt, c5, q6, ne, c6, ?_, fun j u hu => ?_⟩
        · show StAt S w (.slice [_] [.slice [] []]) _
          rw [StAt]
          exact ⟨vi, vv, _, _, nt, ne, ts, es, [], rfl, a1, a2, a3, a4, a5, a6, by rw [StAt]⟩
        · rw [List.getElem?_append_left (by have := (Array.getElem?_eq_some_iff.1 hu).1; simpa using this)]
          simpa using hu
      | succ i =>
        obtain ⟨n0, n1, y2, p3, p4, s5, m5, c5, s6, m6, c6, hx, hc⟩ := hi i y (by simpa using hy)
        refine ⟨n0, n1, y2, p3, p4, s5, m5, c5, s6, m6, c6, hx, fun j u hu => ?_⟩
        rw [show (i + 1) * 7 + j = i * 7 + j + 7 by omega]
        exact hc j u hu
    · rename_i heq
      injection heq with h1 h2
      cases h1
    · exact h'.elim
/-- Statements ahead, written. -/
def preS (left : By) : List Tr → By
  | [] => []
  | x :: xs => (left ++ [32, 32]) ++ smT (left ++ [32, 32]) x ++ [10] ++ preS left xs
theorem preS_snoc (left : By) (x : Tr) : ∀ l, preS left (l ++ [x]) = preS left l ++ ((left ++ [32, 32]) ++ smT (left ++ [32, 32]) x ++ [10])
  | [] => by simp [preS]
  | y :: l => by simp [preS, preS_snoc left x l]
theorem preS_len (left : By) : ∀ (l : List Tr) (i : Nat), (preS left (l.take i)).length ≤ (preS left l).length
  | [], i => by simp
  | y :: l, 0 => by simp [preS]
  | y :: l, i + 1 => by
    have := preS_len left l i
    simp only [List.take_succ_cons, preS, List.length_append] at this ⊢
    omega

set_option maxRecDepth 100000 in
set_option maxHeartbeats 4000000 in
theorem pb_walk {xs : List Tr} (IH : ∀ x ∈ xs, PsC x) (hpre : ∀ left, stT left (chain xs) = preS left xs) (hx6 : xs.length ≤ 1000000) : PbC (chain xs) := by
  intro S B b s w lf v n cs he hb hr hs hl
  obtain ⟨q, c, rfl⟩ := own_slice hr.1
  have HE : Hid (EnvW B w) := he
  have HB : Hid (Bd B b s w) := hb
  have HR : Hid (RowS S w 86 7 (.slice q n c) n cs) := hr
  have HS : Hid (StAt S w (chain xs) cs) := hs
  have HIH : Hid (∀ x ∈ xs, PsC x) := IH
  have HL : Hid (s.length + (blT lf.data.toList (chain xs)).length ≤ 100000000000) := hl
  have HPo : Hid (∀ w', Bd B b (s ++ blT lf.data.toList (chain xs)) w' → FrB B b w w' → WPost B b s (blT lf.data.toList (chain xs)) w (.returned (.tuple #[])) w') := fun w' h1 h2 => ⟨rfl, h1, h2⟩
  generalize hG : WPost B b s (blT lf.data.toList (chain xs)) w = G at *
  clear he hb hr hs hl IH hG
  go_enter Tryz.func19, Tryz.ntmps19
  go_wp2_with (go_at_call 17; fail)
  refine (ws ⟨#[32, 123, 10]⟩ HB.out HE.out.le (by show _ + 3 ≤ _; have := HL.out; unfold blT at this; simp at this ⊢; omega)).mono ?_
  rintro e w1 ⟨rfl, hd, hf⟩
  have HD1 : Hid (Bd B b (s ++ [32, 123, 10]) w1) := hd
  have HF1 : Hid (FrB B b w w1) := hf
  clear hd hf
  have HOp : Hid (cs.length = xs.length * 7 ∧ ∀ (i : Nat) (x : Tr), xs[i]? = some x → ∃ (n0 n1 : Int) (y2 : ByteArray) (p3 p4 : Option Addr) (s5 : Option Addr) (m5 c5 : Nat) (s6 : Option Addr) (m6 c6 : Nat), StAt S w (cc x ce) (#[.int .i64 n0, .int .i64 n1, .string y2, .pointer p3, .pointer p4, .slice s5 m5 c5, .slice s6 m6 c6] : Array Value).toList ∧ ∀ j u, (#[.int .i64 n0, .int .i64 n1, .string y2, .pointer p3, .pointer p4, .slice s5 m5 c5, .slice s6 m6 c6] : Array Value)[j]? = some u → cs[i * 7 + j]? = some u) := sts_open xs cs HS.out
  have HNn : Hid (n = xs.length) := by show _ = _; have h1 := HOp.out.1; have h2 := HR.out.1.1; omega
  have hn6 : n ≤ 1000000 := by rw [HNn.out]; exact hx6
  have HL2 : Hid (s.length + 3 + (preS lf.data.toList xs).length + lf.size + 1 ≤ 100000000000) := by show _ ≤ _; have := HL.out; unfold blT at this; rw [hpre] at this; simp at this; have : lf.data.size = lf.size := rfl; omega
  have HPr : Hid (blT lf.data.toList (chain xs) = [32, 123, 10] ++ preS lf.data.toList xs ++ (lf.data.toList ++ [125])) := by show _ = _; unfold blT; rw [hpre]
  have hlf : lf.size ≤ 100000000000 := by have := HL2.out; omega
  have hi0 : Hid (Bd B b (s ++ [32, 123, 10] ++ preS lf.data.toList (xs.take 0)) w1 ∧ FrB B b w w1) := ⟨by simpa [preS] using HD1.out, HF1.out⟩
  clear hpre hx6
  go_wp2_with fail
  go_loopw [12] (fun v wr => ∃ i : Nat, i ≤ n ∧ v = .int .i64 i ∧ Hid (Bd B b (s ++ [32, 123, 10] ++ preS lf.data.toList (xs.take i)) wr ∧ FrB B b w wr)) (fun v _ => n - (intOf v).toNat)
  case atStart => exact ⟨0, Nat.zero_le _, rfl, hi0.out⟩
  case round =>
    clear hi0
    obtain ⟨i, hin, rfl, HI⟩ := hrel
    by_cases hlt : i < n
    · obtain ⟨g, cap, e, -, -⟩ := HR.out.1.form (by omega)
      injection e with e1 e2 e3
      subst e1
      clear e2 e3
      obtain ⟨x, hx⟩ : ∃ x, xs[i]? = some x := ⟨xs[i]'(by have := HNn.out; omega), List.getElem?_eq_getElem (by have := HNn.out; omega)⟩
      obtain ⟨n0, n1, y2, p3, p4, s5, m5, c5, s6, m6, c6, hsx, hcs⟩ := HOp.out.2 i x hx
      have hrow := (HI.out.2.keeps (fun _ => True) HB.out).row (by decide) HR.out.1 (fun _ _ => trivial)
      have hc : ∀ j u, (#[.int .i64 n0, .int .i64 n1, .string y2, .pointer p3, .pointer p4, .slice s5 m5 c5, .slice s6 m6 c6] : Array Value)[j]? = some u → wr.cell? ⟨g, i * 7 + j, none⟩ = some u := fun j u hu => by
        have := hrow.cells (g := g) rfl (i * 7 + j) u (hcs j u hu)
        rw [add_plain'] at this
        exact this
      have q0 := hc 0 _ rfl
      have q1 := hc 1 _ rfl
      have q2 := hc 2 _ rfl
      have q3 := hc 3 _ rfl
      have q4 := hc 4 _ rfl
      have q5 := hc 5 _ rfl
      have q6 := hc 6 _ rfl
      rw [Nat.add_zero] at q0
      have HSx : Hid (StAt S w (cc x ce) (#[.int .i64 n0, .int .i64 n1, .string y2, .pointer p3, .pointer p4, .slice s5 m5 c5, .slice s6 m6 c6] : Array Value).toList) := hsx
      have HPx : Hid (PsC x) := HIH.out x (List.mem_of_getElem? hx)
      have htk : xs.take (i + 1) = xs.take i ++ [x] := by rw [List.take_add_one, hx]; rfl
      have hj := preS_snoc lf.data.toList x (xs.take i)
      rw [← htk] at hj
      have HJ : Hid (preS lf.data.toList (xs.take (i + 1)) = preS lf.data.toList (xs.take i) ++ ((lf.data.toList ++ [32, 32]) ++ smT (lf.data.toList ++ [32, 32]) x ++ [10])) := hj
      have hln := preS_len lf.data.toList xs (i + 1)
      rw [hj] at hln
      have HLn : Hid ((preS lf.data.toList (xs.take i)).length + lf.size + 2 + (smT (lf.data.toList ++ [32, 32]) x).length + 1 ≤ (preS lf.data.toList xs).length) := by show _ ≤ _; simp at hln; have : lf.data.size = lf.size := rfl; omega
      clear hrow hc hcs hsx hx htk hj hln
      go_wp2_with (go_at_call 17; fail)
      obtain ⟨W1, hW1⟩ : ∃ W1, W1 = wr.alloc (.cells #[.int .i64 n0, .int .i64 n1, .string y2, .pointer p3, .pointer p4, .slice s5 m5 c5, .slice s6 m6 c6] 86) := ⟨_, rfl⟩
      obtain ⟨qq, hqq⟩ : ∃ qq, qq = wr.heap.size := ⟨_, rfl⟩
      have hb1 : Below wr.heap.size wr W1 := by rw [hW1]; exact (Below.refl _ _).alloc (Nat.le_refl _) _
      have HFr : Hid (FrB B b wr W1) := FrB.of hb1 (HE.out.go HI.out.2).le
      have HFW : Hid (FrB B b w W1) := HI.out.2.trans HFr.out
      have HDW : Hid (Bd B b (s ++ [32, 123, 10] ++ preS lf.data.toList (xs.take i)) W1) := HI.out.1.below hb1
      have HQW : Hid (W1.heap[qq]? = some (.cells #[.int .i64 n0, .int .i64 n1, .string y2, .pointer p3, .pointer p4, .slice s5 m5 c5, .slice s6 m6 c6] 86)) := by show _ = _; rw [hW1, hqq]; exact heap_alloc_last wr _
      rw [← hW1, ← hqq]
      clear hW1 hqq hb1
      generalize hx1 : lf ++ (⟨#[32, 32]⟩ : ByteArray) = x1
      have HX1 : Hid (lf ++ (⟨#[32, 32]⟩ : ByteArray) = x1) := hx1
      have HT1 : Hid (x1.data.toList = lf.data.toList ++ [32, 32]) := by show _ = _; rw [← hx1, app_toList]
      have HZ1 : Hid (x1.size = lf.size + 2) := by show _ = _; rw [← hx1, app_size]; rfl
      clear hx1
      refine (ws x1 HDW.out (HE.out.go HFW.out).le (by rw [HZ1.out]; have := HL2.out; have := HLn.out; simp; omega)).mono ?_
      rintro e w2 ⟨rfl, hd, hf⟩
      rw [HT1.out] at hd
      have HD2 : Hid (Bd B b (s ++ [32, 123, 10] ++ preS lf.data.toList (xs.take i) ++ (lf.data.toList ++ [32, 32])) w2) := hd
      have HF2 : Hid (FrB B b w w2) := HFW.out.trans hf
      have hq2 : w2.heap[qq]? = some (.cells #[.int .i64 n0, .int .i64 n1, .string y2, .pointer p3, .pointer p4, .slice s5 m5 c5, .slice s6 m6 c6] 86) := (hf.keeps (fun _ => True) HDW.out) _ _ 86 trivial (by decide) HQW.out
      have z0 := cell_at (i := 0) hq2 rfl
      have z1 := cell_at (i := 1) hq2 rfl
      have z2 := cell_at (i := 2) hq2 rfl
      have z3 := cell_at (i := 3) hq2 rfl
      have z4 := cell_at (i := 4) hq2 rfl
      have z5 := cell_at (i := 5) hq2 rfl
      have z6 := cell_at (i := 6) hq2 rfl
      clear hd hf hq2 q0 q1 q2 q3 q4 q5 q6
      go_wp2_with (go_at_call 32; fail)
      rw [HX1.out]
      refine (HPx.out S B b _ w2 x1 _ (HE.out.go HF2.out) HD2.out (StAt.kept (HF2.out.keeps S HB.out) _ _ HSx.out) (by rw [HT1.out]; have := HL2.out; have := HLn.out; simp at this ⊢; have : lf.data.size = lf.size := rfl; omega)).mono ?_
      rintro e w3 ⟨rfl, hd, hf⟩
      rw [HT1.out] at hd
      have HD3 : Hid (Bd B b (s ++ [32, 123, 10] ++ preS lf.data.toList (xs.take i) ++ (lf.data.toList ++ [32, 32]) ++ smT (lf.data.toList ++ [32, 32]) x) w3) := hd
      have HF3 : Hid (FrB B b w w3) := HF2.out.trans hf
      clear hd hf z0 z1 z2 z3 z4 z5 z6
      go_wp2_with (go_at_call 17; fail)
      refine (ws ⟨#[10]⟩ HD3.out (HE.out.go HF3.out).le (by show _ + 1 ≤ _; have := HL2.out; have := HLn.out; simp at this ⊢; have : lf.data.size = lf.size := rfl; omega)).mono ?_
      rintro e w4 ⟨rfl, hd, hf⟩
      have HEnd : Hid (Bd B b (s ++ [32, 123, 10] ++ preS lf.data.toList (xs.take (i + 1))) w4 ∧ FrB B b w w4) := by
        refine ⟨?_, HF3.out.trans hf⟩
        rw [HJ.out]
        simpa using hd
      clear hd hf
      go_wp2
      exact ⟨⟨i + 1, by omega, by go_num, HEnd.out⟩, by simp [intOf]; omega⟩
    · obtain rfl : i = n := by omega
      have HAll : Hid (Bd B b (s ++ [32, 123, 10] ++ preS lf.data.toList xs) wr ∧ FrB B b w wr) := by
        have h := HI.out
        rw [List.take_of_length_le (by rw [HNn.out]; exact Nat.le_refl _)] at h
        exact h
      go_wp2_with (go_at_call 17; fail)
      generalize hx1 : lf ++ (⟨#[125]⟩ : ByteArray) = x1
      have ht1 : x1.data.toList = lf.data.toList ++ [125] := by rw [← hx1, app_toList]
      have hz1 : x1.size = lf.size + 1 := by rw [← hx1, app_size]; rfl
      refine (ws x1 HAll.out.1 (HE.out.go HAll.out.2).le (by rw [hz1]; have := HL2.out; simp; omega)).mono ?_
      rintro e w2 ⟨rfl, hd, hf⟩
      rw [ht1] at hd
      have HD2 : Hid (Bd B b (s ++ blT lf.data.toList (chain xs)) w2) := by show Bd B b _ w2; rw [HPr.out]; simpa using hd
      have HF2 : Hid (FrB B b w w2) := HAll.out.2.trans hf
      clear hd hf hx1 ht1 hz1
      go_wp2
      go_end0
      exact HPo.out w2 HD2.out HF2.out
end Go.Proofs.YtpakgaegckkmnaaGreatDoor
