/- V9 VA VB VC -/
import Derived.Test.YtnfhpdbbfejioaaGreatDoorQ12
namespace Go.Proofs.YtnfhpdbbfejioaaGreatDoor
set_option linter.unusedVariables false
set_option linter.unusedSimpArgs false
set_option maxRecDepth 100000
set_option maxHeartbeats 4000000
open Go Go.RowKit
def PsC (t : Tr) : Prop := ∀ (S : Nat → Prop) (B b : Nat) (s : By) (w : World) (lf : ByteArray) (cs : Array Value), EnvW B w → Bd B b s w → StAt S w (cc t ce) cs.toList → s.length + (smT lf.data.toList t).length ≤ 100000000000 → Calls Tryz.prog 63 #[.pointer (some ⟨b, 0, none⟩), .agg cs, .string lf] w (zl B b s (smT lf.data.toList t) w)
theorem zL (g k : Nat) : (⟨g, 0, none⟩ : Addr).add k = ⟨g, k, none⟩ := by
 by_cases h : k = 0
 ·subst h; simp [Addr.add]
 ·simp [Addr.add, h]
theorem sts_open {S : Nat → Prop} {w : World} : ∀ (xs : List Tr) (cs : List Value), StAt S w (chain xs) cs → cs.length = xs.length * 7 ∧ ∀ (i : Nat) (x : Tr), xs[i]? = some x → ∃ (n0 n1 : Int) (y2 : ByteArray) (p3 p4 : Option Addr) (s5 : Option Addr) (m5 c5 : Nat) (s6 : Option Addr) (m6 c6 : Nat), StAt S w (cc x ce) (#[.int .i64 n0, .int .i64 n1, .string y2, .pointer p3, .pointer p4, .slice s5 m5 c5, .slice s6 m6 c6] : Array Value).toList ∧ ∀ j u, (#[.int .i64 n0, .int .i64 n1, .string y2, .pointer p3, .pointer p4, .slice s5 m5 c5, .slice s6 m6 c6] : Array Value)[j]? = some u → cs[i * 7 + j]? = some u
 | [], cs, h => by
  have h' : StAt S w (.slice [] []) cs := h
  rw [StAt] at h'
  subst h'
  exact ⟨rfl, fun i x hx => by simp at hx⟩
 | x :: xs, cs, h => by
  have h' : StAt S w (.slice [x] [chain xs]) cs := h
  unfold StAt at h'
  split at h'
  ·rename_i k1 c k2 a nm ix v th el g heq
   obtain ⟨vi, vv, vt, ve, nt, ne, ts, es, rest, e, a1, a2, a3, a4, a5, a6, a7⟩ := h'
   injection heq with h1 h2
   injection h1 with h1 _
   injection h2 with h2 _
   subst h2
   subst h1
   subst e
   obtain ⟨q5, c5, rfl⟩ := ze a3.1
   obtain ⟨q6, c6, rfl⟩ := ze a5.1
   obtain ⟨hl, hi⟩ := sts_open xs rest a7
   refine ⟨by simp [hl]; omega, fun i y hy => ?_⟩
   cases i with
   | zero =>
    simp at hy
    subst hy
    refine ⟨c, a, ⟨nm.toArray⟩, vi, vv, q5, nt, c5, q6, ne, c6, ?_, fun j u hu => ?_⟩
    ·show StAt S w (.slice [_] [.slice [] []]) _
     rw [StAt]
     exact ⟨vi, vv, _, _, nt, ne, ts, es, [], rfl, a1, a2, a3, a4, a5, a6, by rw [StAt]⟩
    ·rw [List.getElem?_append_left (by have := (Array.getElem?_eq_some_iff.1 hu).1; simpa using this)]
     simpa using hu
   | succ i =>
    obtain ⟨n0, n1, y2, p3, p4, s5, m5, c5, s6, m6, c6, hx, hc⟩ := hi i y (by simpa using hy)
    refine ⟨n0, n1, y2, p3, p4, s5, m5, c5, s6, m6, c6, hx, fun j u hu => ?_⟩
    rw [show (i + 1) * 7 + j = i * 7 + j + 7 by omega]
    exact hc j u hu
  ·rename_i heq
   injection heq with h1 h2
   cases h1
  ·exact h'.elim
def preS (left : By) : List Tr → By
 | [] => []
 | x :: xs => (left ++ [32, 32]) ++ smT (left ++ [32, 32]) x ++ [10] ++ preS left xs
theorem preS_snoc (left : By) (x : Tr) : ∀ l, preS left (l ++ [x]) = preS left l ++ ((left ++ [32, 32]) ++ smT (left ++ [32, 32]) x ++ [10])
 | [] => by simp [preS]
 | y :: l => by simp [preS, preS_snoc left x l]
theorem preS_len (left : By) : ∀ (l : List Tr) (i : Nat), (preS left (l.take i)).length ≤ (preS left l).length
 | [], i => by simp
 | y :: l, 0 => by simp [preS]
 | y :: l, i + 1 => by
  have := preS_len left l i
  simp only [List.take_succ_cons, preS, List.length_append] at this ⊢
  omega
theorem pb_walk {xs : List Tr} (IH : ∀ x ∈ xs, PsC x) (hpre : ∀ left, stT left (chain xs) = preS left xs) (hx6 : xs.length ≤ 1000000) : PbC (chain xs) := by
 intro S B b s w lf v n cs he hb hr hs hl
 obtain ⟨q, c, rfl⟩ := ze hr.1
 have HE : Hid (EnvW B w) := he
 have HB : Hid (Bd B b s w) := hb
 have HR : Hid (RowS S w 147 7 (.slice q n c) n cs) := hr
 have HS : Hid (StAt S w (chain xs) cs) := hs
 have HIH : Hid (∀ x ∈ xs, PsC x) := IH
 have HL : Hid (s.length + (blT lf.data.toList (chain xs)).length ≤ 100000000000) := hl
 have HPo : Hid (∀ w', Bd B b (s ++ blT lf.data.toList (chain xs)) w' → FrB B b w w' → zl B b s (blT lf.data.toList (chain xs)) w (.returned (.tuple #[])) w') := fun w' h1 h2 => ⟨rfl, h1, h2⟩
 generalize hG : zl B b s (blT lf.data.toList (chain xs)) w = G at *
 clear he hb hr hs hl IH hG
 go_enter Tryz.func36, Tryz.ntmps36
 go_wp2_with (go_at_call 34; fail)
 refine (ws ⟨#[32, 123, 10]⟩ HB.out HE.out.le (by show _ + 3 ≤ _; have := HL.out; unfold blT at this; simp at this ⊢; omega)).mono ?_
 rintro e w1 ⟨rfl, hd, hf⟩
 have HD1 : Hid (Bd B b (s ++ [32, 123, 10]) w1) := hd
 have HF1 : Hid (FrB B b w w1) := hf
 clear hd hf
 have HOp : Hid (cs.length = xs.length * 7 ∧ ∀ (i : Nat) (x : Tr), xs[i]? = some x → ∃ (n0 n1 : Int) (y2 : ByteArray) (p3 p4 : Option Addr) (s5 : Option Addr) (m5 c5 : Nat) (s6 : Option Addr) (m6 c6 : Nat), StAt S w (cc x ce) (#[.int .i64 n0, .int .i64 n1, .string y2, .pointer p3, .pointer p4, .slice s5 m5 c5, .slice s6 m6 c6] : Array Value).toList ∧ ∀ j u, (#[.int .i64 n0, .int .i64 n1, .string y2, .pointer p3, .pointer p4, .slice s5 m5 c5, .slice s6 m6 c6] : Array Value)[j]? = some u → cs[i * 7 + j]? = some u) := sts_open xs cs HS.out
 have HNn : Hid (n = xs.length) := by show _ = _; have h1 := HOp.out.1; have h2 := HR.out.1.1; omega
 have hn6 : n ≤ 1000000 := by rw [HNn.out]; exact hx6
 have HL2 : Hid (s.length + 3 + (preS lf.data.toList xs).length + lf.size + 1 ≤ 100000000000) := by show _ ≤ _; have := HL.out; unfold blT at this; rw [hpre] at this; simp at this; have : lf.data.size = lf.size := rfl; omega
 have HPr : Hid (blT lf.data.toList (chain xs) = [32, 123, 10] ++ preS lf.data.toList xs ++ (lf.data.toList ++ [125])) := by show _ = _; unfold blT; rw [hpre]
 have hlf : lf.size ≤ 100000000000 := by have := HL2.out; omega
 have hi0 : Hid (Bd B b (s ++ [32, 123, 10] ++ preS lf.data.toList (xs.take 0)) w1 ∧ FrB B b w w1) := ⟨by simpa [preS] using HD1.out, HF1.out⟩
 clear hpre hx6
 go_wp2_with fail
 go_loopw [12] (fun v wr => ∃ i : Nat, i ≤ n ∧ v = .int .i64 i ∧ Hid (Bd B b (s ++ [32, 123, 10] ++ preS lf.data.toList (xs.take i)) wr ∧ FrB B b w wr)) (fun v _ => n - (intOf v).toNat)
 case atStart => exact ⟨0, Nat.zero_le _, rfl, hi0.out⟩
 case round =>
  clear hi0
  obtain ⟨i, hin, rfl, HI⟩ := hrel
  by_cases hlt : i < n
  ·obtain ⟨g, cap, e, -, -⟩ := HR.out.1.form (by omega)
   injection e with e1 e2 e3
   subst e1
   clear e2 e3
   obtain ⟨x, hx⟩ : ∃ x, xs[i]? = some x := ⟨xs[i]'(by have := HNn.out; omega), List.getElem?_eq_getElem (by have := HNn.out; omega)⟩
   obtain ⟨n0, n1, y2, p3, p4, s5, m5, c5, s6, m6, c6, hsx, hcs⟩ := HOp.out.2 i x hx
   have hrow := (HI.out.2.keeps (fun _ => True) HB.out).row (by decide) HR.out.1 (fun _ _ => trivial)
   have hc : ∀ j u, (#[.int .i64 n0, .int .i64 n1, .string y2, .pointer p3, .pointer p4, .slice s5 m5 c5, .slice s6 m6 c6] : Array Value)[j]? = some u → wr.cell? ⟨g, i * 7 + j, none⟩ = some u := fun j u hu => by
    have := hrow.cells (g := g) rfl (i * 7 + j) u (hcs j u hu)
    rw [zL] at this
    exact this
   have q0 := hc 0 _ rfl
   have q1 := hc 1 _ rfl
   have q2 := hc 2 _ rfl
   have q3 := hc 3 _ rfl
   have q4 := hc 4 _ rfl
   have q5 := hc 5 _ rfl
   have q6 := hc 6 _ rfl
   rw [Nat.add_zero] at q0
   have HSx : Hid (StAt S w (cc x ce) (#[.int .i64 n0, .int .i64 n1, .string y2, .pointer p3, .pointer p4, .slice s5 m5 c5, .slice s6 m6 c6] : Array Value).toList) := hsx
   have HPx : Hid (PsC x) := HIH.out x (List.mem_of_getElem? hx)
   have htk : xs.take (i + 1) = xs.take i ++ [x] := by rw [List.take_add_one, hx]; rfl
   have hj := preS_snoc lf.data.toList x (xs.take i)
   rw [← htk] at hj
   have HJ : Hid (preS lf.data.toList (xs.take (i + 1)) = preS lf.data.toList (xs.take i) ++ ((lf.data.toList ++ [32, 32]) ++ smT (lf.data.toList ++ [32, 32]) x ++ [10])) := hj
   have hln := preS_len lf.data.toList xs (i + 1)
   rw [hj] at hln
   have HLn : Hid ((preS lf.data.toList (xs.take i)).length + lf.size + 2 + (smT (lf.data.toList ++ [32, 32]) x).length + 1 ≤ (preS lf.data.toList xs).length) := by show _ ≤ _; simp at hln; have : lf.data.size = lf.size := rfl; omega
   clear hrow hc hcs hsx hx htk hj hln
   go_wp2_with (go_at_call 34; fail)
   obtain ⟨W1, hW1⟩ : ∃ W1, W1 = wr.alloc (.cells #[.int .i64 n0, .int .i64 n1, .string y2, .pointer p3, .pointer p4, .slice s5 m5 c5, .slice s6 m6 c6] 147) := ⟨_, rfl⟩
   obtain ⟨qq, hqq⟩ : ∃ qq, qq = wr.heap.size := ⟨_, rfl⟩
   have hb1 : Below wr.heap.size wr W1 := by rw [hW1]; exact (Below.refl _ _).alloc (Nat.le_refl _) _
   have HFr : Hid (FrB B b wr W1) := FrB.of hb1 (HE.out.go HI.out.2).le
   have HFW : Hid (FrB B b w W1) := HI.out.2.trans HFr.out
   have HDW : Hid (Bd B b (s ++ [32, 123, 10] ++ preS lf.data.toList (xs.take i)) W1) := HI.out.1.below hb1
   have HQW : Hid (W1.heap[qq]? = some (.cells #[.int .i64 n0, .int .i64 n1, .string y2, .pointer p3, .pointer p4, .slice s5 m5 c5, .slice s6 m6 c6] 147)) := by show _ = _; rw [hW1, hqq]; exact heap_alloc_last wr _
   rw [← hW1, ← hqq]
   clear hW1 hqq hb1
   generalize hx1 : lf ++ (⟨#[32, 32]⟩ : ByteArray) = x1
   have HX1 : Hid (lf ++ (⟨#[32, 32]⟩ : ByteArray) = x1) := hx1
   have HT1 : Hid (x1.data.toList = lf.data.toList ++ [32, 32]) := by show _ = _; rw [← hx1, qu]
   have HZ1 : Hid (x1.size = lf.size + 2) := by show _ = _; rw [← hx1, je]; rfl
   clear hx1
   refine (ws x1 HDW.out (HE.out.go HFW.out).le (by rw [HZ1.out]; have := HL2.out; have := HLn.out; simp; omega)).mono ?_
   rintro e w2 ⟨rfl, hd, hf⟩
   rw [HT1.out] at hd
   have HD2 : Hid (Bd B b (s ++ [32, 123, 10] ++ preS lf.data.toList (xs.take i) ++ (lf.data.toList ++ [32, 32])) w2) := hd
   have HF2 : Hid (FrB B b w w2) := HFW.out.trans hf
   have hq2 : w2.heap[qq]? = some (.cells #[.int .i64 n0, .int .i64 n1, .string y2, .pointer p3, .pointer p4, .slice s5 m5 c5, .slice s6 m6 c6] 147) := (hf.keeps (fun _ => True) HDW.out) _ _ 147 trivial (by decide) HQW.out
   have z0 := z_ (i := 0) hq2 rfl
   have z1 := z_ (i := 1) hq2 rfl
   have z2 := z_ (i := 2) hq2 rfl
   have z3 := z_ (i := 3) hq2 rfl
   have z4 := z_ (i := 4) hq2 rfl
   have z5 := z_ (i := 5) hq2 rfl
   have z6 := z_ (i := 6) hq2 rfl
   clear hd hf hq2 q0 q1 q2 q3 q4 q5 q6
   go_wp2_with (go_at_call 63; fail)
   rw [HX1.out]
   refine (HPx.out S B b _ w2 x1 _ (HE.out.go HF2.out) HD2.out (StAt.kept (HF2.out.keeps S HB.out) _ _ HSx.out) (by rw [HT1.out]; have := HL2.out; have := HLn.out; simp at this ⊢; have : lf.data.size = lf.size := rfl; omega)).mono ?_
   rintro e w3 ⟨rfl, hd, hf⟩
   rw [HT1.out] at hd
   have HD3 : Hid (Bd B b (s ++ [32, 123, 10] ++ preS lf.data.toList (xs.take i) ++ (lf.data.toList ++ [32, 32]) ++ smT (lf.data.toList ++ [32, 32]) x) w3) := hd
   have HF3 : Hid (FrB B b w w3) := HF2.out.trans hf
   clear hd hf z0 z1 z2 z3 z4 z5 z6
   go_wp2_with (go_at_call 34; fail)
   refine (ws ⟨#[10]⟩ HD3.out (HE.out.go HF3.out).le (by show _ + 1 ≤ _; have := HL2.out; have := HLn.out; simp at this ⊢; have : lf.data.size = lf.size := rfl; omega)).mono ?_
   rintro e w4 ⟨rfl, hd, hf⟩
   have HEnd : Hid (Bd B b (s ++ [32, 123, 10] ++ preS lf.data.toList (xs.take (i + 1))) w4 ∧ FrB B b w w4) := by
    refine ⟨?_, HF3.out.trans hf⟩
    rw [HJ.out]
    simpa using hd
   clear hd hf
   go_wp2
   exact ⟨⟨i + 1, by omega, by go_num, HEnd.out⟩, by simp [intOf]; omega⟩
  ·obtain rfl : i = n := by omega
   have HAll : Hid (Bd B b (s ++ [32, 123, 10] ++ preS lf.data.toList xs) wr ∧ FrB B b w wr) := by
    have h := HI.out
    rw [List.take_of_length_le (by rw [HNn.out]; exact Nat.le_refl _)] at h
    exact h
   go_wp2_with (go_at_call 34; fail)
   generalize hx1 : lf ++ (⟨#[125]⟩ : ByteArray) = x1
   have ht1 : x1.data.toList = lf.data.toList ++ [125] := by rw [← hx1, qu]
   have hz1 : x1.size = lf.size + 1 := by rw [← hx1, je]; rfl
   refine (ws x1 HAll.out.1 (HE.out.go HAll.out.2).le (by rw [hz1]; have := HL2.out; simp; omega)).mono ?_
   rintro e w2 ⟨rfl, hd, hf⟩
   rw [ht1] at hd
   have HD2 : Hid (Bd B b (s ++ blT lf.data.toList (chain xs)) w2) := by show Bd B b _ w2; rw [HPr.out]; simpa using hd
   have HF2 : Hid (FrB B b w w2) := HAll.out.2.trans hf
   clear hd hf hx1 ht1 hz1
   go_wp2
   go_end0
   exact HPo.out w2 HD2.out HF2.out
theorem isCe_chain : ∀ xs : List Tr, isCe (chain xs) = decide (xs.length = 0)
 | [] => rfl
 | x :: xs => by simp [isCe, chain]
theorem row_count {S : Nat → Prop} {w : World} {v : Value} {n : Nat} {cs : List Value} {xs : List Tr} (hr : RowS S w 147 7 v n cs) (hs : StAt S w (chain xs) cs) : n = xs.length := by
 have h1 := (sts_open xs cs hs).1
 have h2 := hr.1.1
 omega
theorem ps_all {c a : Int} {nm : By} {ix v th el : Tr} (c1 : 1 ≤ c) (c8 : c ≤ 8) (IX : WrC ix) (IV : WrC v) (IT : PbC th) (IE : PbC el) {xs : List Tr} (hel : el = chain xs) : PsC (st c a nm ix v th el) := by
 intro S B b s w lf cs he hb hs hl
 obtain ⟨pi, pv, vt, ve, nt, ne, ts, es, rest, ecs, hxi, hxv, hrt, hst, hre, hse, hre2⟩ := st_open hs
 have hrest : rest = [] := by
  have : StAt S w (.slice [] []) rest := hre2
  rw [StAt] at this
  exact this
 subst hrest
 obtain ⟨s5, c5, rfl⟩ := ze hrt.1
 obtain ⟨s6, c6, rfl⟩ := ze hre.1
 have hcs : cs = #[.int .i64 c, .int .i64 a, .string ⟨nm.toArray⟩, .pointer pi, .pointer pv, .slice s5 nt c5, .slice s6 ne c6] := by
  have h := congrArg List.toArray ecs
  rw [Array.toArray_toList] at h
  exact h
 subst hcs
 have hy : (⟨nm.toArray⟩ : ByteArray).data.toList = nm := by simp
 have hne : ne = xs.length := row_count hre (by rw [← hel]; exact hse)
 rcases (by omega : c = 1 ∨ c = 2 ∨ c = 3 ∨ c = 4 ∨ c = 5 ∨ c = 6 ∨ c = 7 ∨ c = 8) with rfl | rfl | rfl | rfl | rfl | rfl | rfl | rfl
 ·have e : smT lf.data.toList (st 1 a nm ix v th el) = [118, 97, 114, 32] ++ nm ++ [32, 61, 32] ++ wrT v ++ [59] := by simp [smT]
  rw [e] at hl ⊢
  exact ps_var (th := th) (el := el) IV S B b s w _ pi pv s5 nt c5 s6 ne c6 lf hy he hb hxi hxv hl
 ·have e : smT lf.data.toList (st 2 a nm ix v th el) = nm ++ [32, 61, 32] ++ wrT v ++ [59] := by simp [smT]
  rw [e] at hl ⊢
  exact ps_set (th := th) (el := el) IV S B b s w _ pi pv s5 nt c5 s6 ne c6 lf hy he hb hxi hxv hl
 ·have e : smT lf.data.toList (st 3 a nm ix v th el) = nm ++ ([91] ++ wrT ix ++ [93]) ++ [32, 61, 32] ++ wrT v ++ [59] := by simp [smT]
  rw [e] at hl ⊢
  exact ps_put (th := th) (el := el) IV IX S B b s w _ pi pv s5 nt c5 s6 ne c6 lf hy he hb hxi hxv hl
 ·by_cases h0 : xs.length = 0
  ·have e : smT lf.data.toList (st 4 a nm ix v th el) = ([105, 102] ++ [32, 40]) ++ wrT v ++ [41] ++ blT lf.data.toList th := by simp [smT, hel, isCe_chain, h0]
   rw [e] at hl ⊢
   exact ps_if (el := el) IV IT S B b s w _ pi pv s5 nt c5 s6 ne c6 lf hy he hb hxi hxv hrt hst (by omega) hl
  ·have e : smT lf.data.toList (st 4 a nm ix v th el) = ([105, 102] ++ [32, 40]) ++ wrT v ++ [41] ++ blT lf.data.toList th ++ ([32, 101, 108, 115, 101] ++ blT lf.data.toList el) := by
    have : isCe el = false := by rw [hel, isCe_chain]; simp [h0]
    simp [smT, this]
   rw [e] at hl ⊢
   exact ps_else IV IT IE S B b s w _ pi pv s5 nt c5 s6 ne c6 lf hy he hb hxi hxv hrt hst hre hse (by omega) hl
 ·have e : smT lf.data.toList (st 5 a nm ix v th el) = ([119, 104, 105, 108, 101] ++ [32, 40]) ++ wrT v ++ [41] ++ blT lf.data.toList th := by simp [smT]
  rw [e] at hl ⊢
  exact ps_while (el := el) IV IT S B b s w _ pi pv s5 nt c5 s6 ne c6 lf hy he hb hxi hxv hrt hst hl
 ·have e : smT lf.data.toList (st 6 a nm ix v th el) = [114, 101, 116, 117, 114, 110, 32] ++ wrT v ++ [59] := by simp [smT]
  rw [e] at hl ⊢
  exact ps_return (th := th) (el := el) IV S B b s w _ pi pv s5 nt c5 s6 ne c6 lf hy he hb hxi hxv hl
 ·have e : smT lf.data.toList (st 7 a nm ix v th el) = [112, 114, 105, 110, 116, 32] ++ wrT v ++ [59] := by simp [smT]
  rw [e] at hl ⊢
  exact ps_print (th := th) (el := el) IV S B b s w _ pi pv s5 nt c5 s6 ne c6 lf hy he hb hxi hxv hl
 ·have e : smT lf.data.toList (st 8 a nm ix v th el) = wrT v ++ [59] := by simp [smT]
  rw [e] at hl ⊢
  exact ps_do (nm := nm) (th := th) (el := el) IV S B b s w _ pi pv s5 nt c5 s6 ne c6 lf hy he hb hxi hxv hl
def chl : Tr → Nat
 | .slice [_] [g] => chl g + 1
 | _ => 0
theorem qc : ∀ xs : List Tr, chl (chain xs) = xs.length
 | [] => rfl
 | x :: xs => by simp [chain, chl, qc xs]
def paO (x : By × Int) : By := (x.1 ++ [58, 32]) ++ (if x.2 = 2 then [97, 114, 114] else [105, 110, 116])
def paT : List (By × Int) → By
 | [] => []
 | [x] => paO x
 | x :: y :: xs => paO x ++ [44, 32] ++ paT (y :: xs)
theorem paT_snoc (x : By × Int) : ∀ l, paT (l ++ [x]) = paT l ++ (if l = [] then [] else [44, 32]) ++ paO x
 | [] => by simp [paT]
 | [y] => by simp [paT]
 | y :: z :: l => by
  have ih := paT_snoc x (z :: l)
  simp only [List.cons_append, paT] at ih ⊢
  rw [ih]
  simp
theorem paT_len : ∀ (xs : List (By × Int)) (i : Nat), (paT (xs.take i)).length ≤ (paT xs).length
 | [], i => by simp [paT]
 | [x], 0 => by simp [paT]
 | [x], i + 1 => by simp [paT]
 | x :: y :: xs, 0 => by simp [paT]
 | x :: y :: xs, 1 => by simp [paT]
 | x :: y :: xs, i + 2 => by
  have ih := paT_len (y :: xs) (i + 1)
  simp only [List.take_succ_cons, paT, List.length_append] at ih ⊢
  omega
theorem psC_get : ∀ (xs : List (By × Int)) (i : Nat) (x : By × Int), xs[i]? = some x → (psC xs)[i * 2]? = some (str x.1) ∧ (psC xs)[i * 2 + 1]? = some (.int .i64 x.2)
 | [], i, x, h => by simp at h
 | y :: xs, 0, x, h => by
  simp at h
  subst h
  exact ⟨rfl, rfl⟩
 | y :: xs, i + 1, x, h => by
  have ih := psC_get xs i x (by simpa using h)
  rw [show (i + 1) * 2 = i * 2 + 2 by omega, show i * 2 + 2 + 1 = i * 2 + 1 + 2 by omega]
  exact ih
theorem pp_walk {xs : List (By × Int)} (S : Nat → Prop) (B b : Nat) (s : By) (w : World) (v : Value) (he : EnvW B w) (hb : Bd B b s w) (hr : RowS S w 144 2 v xs.length (psC xs)) (hx6 : xs.length ≤ 1000000) (hl : s.length + (paT xs).length ≤ 100000000000) :
  Calls Tryz.prog 35 #[.pointer (some ⟨b, 0, none⟩), v] w (zl B b s (paT xs) w) := by
 obtain ⟨q, c, rfl⟩ := ze hr.1
 have HE : Hid (EnvW B w) := he
 have HB : Hid (Bd B b s w) := hb
 have HR : Hid (RowS S w 144 2 (.slice q xs.length c) xs.length (psC xs)) := hr
 have HL : Hid (s.length + (paT xs).length ≤ 100000000000) := hl
 have HPo : Hid (∀ w', Bd B b (s ++ paT xs) w' → FrB B b w w' → zl B b s (paT xs) w (.returned (.tuple #[])) w') := fun w' h1 h2 => ⟨rfl, h1, h2⟩
 generalize hG : zl B b s (paT xs) w = G at *
 have hi0 : Hid (Bd B b (s ++ paT (xs.take 0)) w ∧ FrB B b w w) := ⟨by simpa [paT] using hb, FrB.refl _ _ _⟩
 obtain ⟨n, hn⟩ : ∃ n, n = xs.length := ⟨_, rfl⟩
 have HN : Hid (n = xs.length) := hn
 rw [← hn] at HR hx6 ⊢
 clear he hb hr hl hG hn
 go_enter Tryz.func35, Tryz.ntmps35
 go_wp2_with fail
 go_loopw [8] (fun v wr => ∃ i : Nat, i ≤ n ∧ v = .int .i64 i ∧ Hid (Bd B b (s ++ paT (xs.take i)) wr ∧ FrB B b w wr)) (fun v _ => n - (intOf v).toNat)
 case atStart => exact ⟨0, Nat.zero_le _, rfl, hi0.out⟩
 case round =>
  clear hi0
  obtain ⟨i, hin, rfl, HI⟩ := hrel
  by_cases hlt : i < n
  ·obtain ⟨g, cap, e, -, -⟩ := HR.out.1.form (by omega)
   injection e with e1 e2 e3
   subst e1
   clear e2 e3
   obtain ⟨x, hx⟩ : ∃ x, xs[i]? = some x := ⟨xs[i]'(by have := HN.out; omega), List.getElem?_eq_getElem (by have := HN.out; omega)⟩
   obtain ⟨hc0, hc1⟩ := psC_get xs i x hx
   obtain ⟨y, hy, hyt⟩ := zt x.1
   have hyz : y.size = x.1.length := by rw [← hyt]; simp
   have HY : Hid (y.data.toList = x.1 ∧ y.size = x.1.length) := ⟨hyt, hyz⟩
   rw [hy] at hc0
   have hrow := (HI.out.2.keeps (fun _ => True) HB.out).row (by decide) HR.out.1 (fun _ _ => trivial)
   have q0 : wr.cell? ⟨g, i * 2, none⟩ = some (.string y) := by
    have := hrow.cells (g := g) rfl (i * 2) _ hc0
    rw [zL] at this
    exact this
   have q1 : wr.cell? ⟨g, i * 2 + 1, none⟩ = some (.int .i64 x.2) := by
    have := hrow.cells (g := g) rfl (i * 2 + 1) _ hc1
    rw [zL] at this
    exact this
   have htk : xs.take (i + 1) = xs.take i ++ [x] := by rw [List.take_add_one, hx]; rfl
   have hj := paT_snoc x (xs.take i)
   rw [← htk] at hj
   have HJ : Hid (paT (xs.take (i + 1)) = paT (xs.take i) ++ (if xs.take i = [] then [] else [44, 32]) ++ paO x) := hj
   have hln := paT_len xs (i + 1)
   rw [hj] at hln
   have HLn : Hid ((paT (xs.take i)).length + ((if xs.take i = [] then [] else [44, 32]) : By).length + (x.1.length + 2) + 3 ≤ (paT xs).length) := by
    show _ ≤ _
    have h3 : (paO x).length = x.1.length + 2 + 3 := by unfold paO; split <;> simp
    simp only [List.length_append] at hln
    omega
   have hyb : y.size ≤ 100000000000 := by rw [hyz]; have := HLn.out; have := HL.out; omega
   obtain ⟨ty, hty⟩ : ∃ ty, ty = x.2 := ⟨_, rfl⟩
   have HTy : Hid (ty = x.2) := hty
   rw [← hty] at q1
   have HWd : Hid (∀ W1, W1 = wr.alloc (.cells #[.string y, .int .i64 ty] 144) → FrB B b wr W1 ∧ W1.heap[wr.heap.size]? = some (.cells #[.string y, .int .i64 ty] 144) ∧ Below wr.heap.size wr W1) := fun W1 e => by
    have hb1 : Below wr.heap.size wr W1 := by rw [e]; exact (Below.refl _ _).alloc (Nat.le_refl _) _
    exact ⟨FrB.of hb1 (HE.out.go HI.out.2).le, by rw [e]; exact heap_alloc_last wr _, hb1⟩
   clear hrow hc0 hc1 hx htk hj hln hy hyt hyz hty
   by_cases h0 : i = 0
   ·subst h0
    go_wp2_with (go_at_call 34; fail)
    obtain ⟨W1, hW1⟩ : ∃ W1, W1 = wr.alloc (.cells #[.string y, .int .i64 ty] 144) := ⟨_, rfl⟩
    obtain ⟨hfr, hq1, hb1⟩ := HWd.out W1 hW1
    obtain ⟨qq, hqq⟩ : ∃ qq, qq = wr.heap.size := ⟨_, rfl⟩
    rw [← hqq] at hq1
    have HFa : Hid (FrB B b w W1) := HI.out.2.trans hfr
    have HDa : Hid (Bd B b (s ++ paT (xs.take 0) ++ []) W1) := (by simpa using HI.out.1.below hb1 : Bd B b _ W1)
    have HQa : Hid (W1.heap[qq]? = some (.cells #[.string y, .int .i64 ty] 144)) := hq1
    have HSep : Hid ((if xs.take 0 = [] then [] else [44, 32] : By) = []) := by show _ = _; simp
    rw [← hW1, ← hqq]
    clear hW1 hqq hfr hq1 hb1
    generalize hx1 : y ++ (⟨#[58, 32]⟩ : ByteArray) = x1
    have ht1 : x1.data.toList = x.1 ++ [58, 32] := by rw [← hx1, qu, HY.out.1]
    have hz1 : x1.size = x.1.length + 2 := by rw [← hx1, je, HY.out.2]; rfl
    refine (ws x1 HDa.out (HE.out.go HFa.out).le (by rw [hz1]; have := HL.out; have := HLn.out; rw [HSep.out] at this; simp at this ⊢; omega)).mono ?_
    rintro e w3 ⟨rfl, hd, hf⟩
    rw [ht1] at hd
    have HF3 : Hid (FrB B b w w3) := HFa.out.trans hf
    have HD3 : Hid (Bd B b (s ++ paT (xs.take 0) ++ [] ++ (x.1 ++ [58, 32])) w3) := hd
    have hQ3 := (hf.keeps (fun _ => True) HDa.out) _ _ 144 trivial (by decide) HQa.out
    have z1 := z_ (i := 1) hQ3 rfl
    clear hd hf hQ3 hx1 ht1 hz1
    by_cases h2 : ty = 2
    ·have bt : (ty == 2) = true := by simpa using h2
     have HO : Hid (paO x = (x.1 ++ [58, 32]) ++ [97, 114, 114]) := by show _ = _; unfold paO; rw [if_pos (by rw [← HTy.out]; exact h2)]
     go_wp2_with (go_at_call 34; fail)
     refine (ws ⟨#[97, 114, 114]⟩ HD3.out (HE.out.go HF3.out).le (by show _ + 3 ≤ _; have := HL.out; have := HLn.out; rw [HSep.out] at this; simp at this ⊢; omega)).mono ?_
     rintro e w4 ⟨rfl, hd, hf⟩
     have HEnd : Hid (Bd B b (s ++ paT (xs.take (0 + 1))) w4 ∧ FrB B b w w4) := by
      refine ⟨?_, HF3.out.trans hf⟩
      rw [HJ.out, HSep.out, HO.out]
      simpa using hd
     clear hd hf
     go_wp2
     exact ⟨⟨0 + 1, by omega, by go_num, HEnd.out⟩, by simp [intOf]; omega⟩
    ·have bt : (ty == 2) = false := by simpa using h2
     have HO : Hid (paO x = (x.1 ++ [58, 32]) ++ [105, 110, 116]) := by show _ = _; unfold paO; rw [if_neg (by rw [← HTy.out]; exact h2)]
     go_wp2_with (go_at_call 34; fail)
     refine (ws ⟨#[105, 110, 116]⟩ HD3.out (HE.out.go HF3.out).le (by show _ + 3 ≤ _; have := HL.out; have := HLn.out; rw [HSep.out] at this; simp at this ⊢; omega)).mono ?_
     rintro e w4 ⟨rfl, hd, hf⟩
     have HEnd : Hid (Bd B b (s ++ paT (xs.take (0 + 1))) w4 ∧ FrB B b w w4) := by
      refine ⟨?_, HF3.out.trans hf⟩
      rw [HJ.out, HSep.out, HO.out]
      simpa using hd
     clear hd hf
     go_wp2
     exact ⟨⟨0 + 1, by omega, by go_num, HEnd.out⟩, by simp [intOf]; omega⟩
   ·have hpos : 0 < i := by omega
    have HSep : Hid ((if xs.take i = [] then [] else [44, 32] : By) = [44, 32]) := by
     show _ = _
     rw [if_neg]
     intro e
     have := congrArg List.length e
     rw [List.length_take, ← HN.out] at this
     simp at this
     omega
    go_wp2_with (go_at_call 34; fail)
    obtain ⟨W1, hW1⟩ : ∃ W1, W1 = wr.alloc (.cells #[.string y, .int .i64 ty] 144) := ⟨_, rfl⟩
    obtain ⟨hfr, hq1, hb1⟩ := HWd.out W1 hW1
    obtain ⟨qq, hqq⟩ : ∃ qq, qq = wr.heap.size := ⟨_, rfl⟩
    rw [← hqq] at hq1
    have HFb : Hid (FrB B b w W1) := HI.out.2.trans hfr
    have HDb : Hid (Bd B b (s ++ paT (xs.take i)) W1) := HI.out.1.below hb1
    have HQb : Hid (W1.heap[qq]? = some (.cells #[.string y, .int .i64 ty] 144)) := hq1
    rw [← hW1, ← hqq]
    clear hW1 hqq hfr hq1 hb1
    refine (ws ⟨#[44, 32]⟩ HDb.out (HE.out.go HFb.out).le (by show _ + 2 ≤ _; have := HL.out; have := HLn.out; rw [HSep.out] at this; simp at this ⊢; omega)).mono ?_
    rintro e w2 ⟨rfl, hd, hf⟩
    have HFa : Hid (FrB B b w w2) := HFb.out.trans hf
    have HDa : Hid (Bd B b (s ++ paT (xs.take i) ++ [44, 32]) w2) := hd
    have hQ2 := (hf.keeps (fun _ => True) HDb.out) _ _ 144 trivial (by decide) HQb.out
    have HQa : Hid (w2.heap[qq]? = some (.cells #[.string y, .int .i64 ty] 144)) := hQ2
    have z0 := z_ (i := 0) hQ2 rfl
    clear hd hf hQ2
    go_wp2_with (go_at_call 34; fail)
    generalize hx1 : y ++ (⟨#[58, 32]⟩ : ByteArray) = x1
    have ht1 : x1.data.toList = x.1 ++ [58, 32] := by rw [← hx1, qu, HY.out.1]
    have hz1 : x1.size = x.1.length + 2 := by rw [← hx1, je, HY.out.2]; rfl
    refine (ws x1 HDa.out (HE.out.go HFa.out).le (by rw [hz1]; have := HL.out; have := HLn.out; rw [HSep.out] at this; simp at this ⊢; omega)).mono ?_
    rintro e w3 ⟨rfl, hd, hf⟩
    rw [ht1] at hd
    have HF3 : Hid (FrB B b w w3) := HFa.out.trans hf
    have HD3 : Hid (Bd B b (s ++ paT (xs.take i) ++ [44, 32] ++ (x.1 ++ [58, 32])) w3) := hd
    have hQ3 := (hf.keeps (fun _ => True) HDa.out) _ _ 144 trivial (by decide) HQa.out
    have z1 := z_ (i := 1) hQ3 rfl
    clear hd hf hQ3 hx1 ht1 hz1
    by_cases h2 : ty = 2
    ·have bt : (ty == 2) = true := by simpa using h2
     have HO : Hid (paO x = (x.1 ++ [58, 32]) ++ [97, 114, 114]) := by show _ = _; unfold paO; rw [if_pos (by rw [← HTy.out]; exact h2)]
     go_wp2_with (go_at_call 34; fail)
     refine (ws ⟨#[97, 114, 114]⟩ HD3.out (HE.out.go HF3.out).le (by show _ + 3 ≤ _; have := HL.out; have := HLn.out; rw [HSep.out] at this; simp at this ⊢; omega)).mono ?_
     rintro e w4 ⟨rfl, hd, hf⟩
     have HEnd : Hid (Bd B b (s ++ paT (xs.take (i + 1))) w4 ∧ FrB B b w w4) := by
      refine ⟨?_, HF3.out.trans hf⟩
      rw [HJ.out, HSep.out, HO.out]
      simpa using hd
     clear hd hf
     go_wp2
     exact ⟨⟨i + 1, by omega, by go_num, HEnd.out⟩, by simp [intOf]; omega⟩
    ·have bt : (ty == 2) = false := by simpa using h2
     have HO : Hid (paO x = (x.1 ++ [58, 32]) ++ [105, 110, 116]) := by show _ = _; unfold paO; rw [if_neg (by rw [← HTy.out]; exact h2)]
     go_wp2_with (go_at_call 34; fail)
     refine (ws ⟨#[105, 110, 116]⟩ HD3.out (HE.out.go HF3.out).le (by show _ + 3 ≤ _; have := HL.out; have := HLn.out; rw [HSep.out] at this; simp at this ⊢; omega)).mono ?_
     rintro e w4 ⟨rfl, hd, hf⟩
     have HEnd : Hid (Bd B b (s ++ paT (xs.take (i + 1))) w4 ∧ FrB B b w w4) := by
      refine ⟨?_, HF3.out.trans hf⟩
      rw [HJ.out, HSep.out, HO.out]
      simpa using hd
     clear hd hf
     go_wp2
     exact ⟨⟨i + 1, by omega, by go_num, HEnd.out⟩, by simp [intOf]; omega⟩
  ·obtain rfl : i = n := by omega
   have HAll : Hid (Bd B b (s ++ paT xs) wr ∧ FrB B b w wr) := by
    have h := HI.out
    rw [List.take_of_length_le (by rw [HN.out]; exact Nat.le_refl _)] at h
    exact h
   go_wp2
   go_end0
   exact HPo.out wr HAll.out.1 HAll.out.2
structure Fun where
 nm : By
 kd : IntKind
 at' : Int
 ps : List (By × Int)
 body : Tr
def Fun.tr (f : Fun) : Tr := .agg [.lit (.string f.nm), .lit (.int f.kd f.at'), psT f.ps, f.body]
def fuT (f : Fun) : By := ([102, 110, 32] ++ f.nm ++ [40]) ++ paT f.ps ++ [41] ++ blT [] f.body ++ [10]
def prT (l : List Fun) : By := l.flatMap fuT
theorem prT_snoc (l : List Fun) (f : Fun) : prT (l ++ [f]) = prT l ++ fuT f := by simp [prT]
theorem prT_len (l : List Fun) (i : Nat) : (prT (l.take i)).length ≤ (prT l).length := by
 have h : prT l = prT (l.take i) ++ prT (l.drop i) := by unfold prT; rw [← List.flatMap_append, List.take_append_drop]
 rw [h]
 simp
theorem fns_open {S : Nat → Prop} {w : World} : ∀ (t : Tr) (cs : List Value), FnAt S w t cs → ∃ l : List Fun, t = chain (l.map Fun.tr) ∧ cs.length = l.length * 4 ∧ ∀ (i : Nat) (f : Fun), l[i]? = some f → ∃ (vp vb : Value) (nb : Nat) (bcs : List Value), RowS S w 144 2 vp f.ps.length (psC f.ps) ∧ RowS S w 147 7 vb nb bcs ∧ StAt S w f.body bcs ∧ cs[i * 4]? = some (str f.nm) ∧ cs[i * 4 + 1]? = some (.int .i64 f.at') ∧ cs[i * 4 + 2]? = some vp ∧ cs[i * 4 + 3]? = some vb
 | t, cs, h => by
  unfold FnAt at h
  split at h
  ·rename_i nm k1 a ps b g
   obtain ⟨vp, vb, nb, xs, bcs, rest, e, a1, a2, a3, a4, a5⟩ := h
   obtain ⟨l, e1, e2, e3⟩ := fns_open g rest a5
   subst a1
   subst e
   refine ⟨⟨nm, k1, a, xs, b⟩ :: l, by rw [e1]; rfl, by simp [e2]; omega, fun i f hf => ?_⟩
   cases i with
   | zero =>
    simp at hf
    subst hf
    exact ⟨vp, vb, nb, bcs, a2, a3, a4, rfl, rfl, rfl, rfl⟩
   | succ i =>
    obtain ⟨vp', vb', nb', bcs', b1, b2, b3, b4, b5, b6, b7⟩ := e3 i f (by simpa using hf)
    refine ⟨vp', vb', nb', bcs', b1, b2, b3, ?_, ?_, ?_, ?_⟩
    ·rw [show (i + 1) * 4 = i * 4 + 4 by omega]; exact b4
    ·rw [show (i + 1) * 4 + 1 = i * 4 + 1 + 4 by omega]; exact b5
    ·rw [show (i + 1) * 4 + 2 = i * 4 + 2 + 4 by omega]; exact b6
    ·rw [show (i + 1) * 4 + 3 = i * 4 + 3 + 4 by omega]; exact b7
  ·exact ⟨[], rfl, by simp [h], fun i f hf => by simp at hf⟩
  ·exact h.elim
theorem bd_new {w : World} (W : World) (hW : W = w.alloc (.cells #[.pointer none, .slice none 0 0] 83)) : Bd w.heap.size w.heap.size [] W := by
 refine .inl ⟨Nat.le_refl _, .slice none 0 0, by rw [hW]; exact heap_alloc_last w _, World.ownsRowF_nil _ _ _ _, by simp [Value.ownBlock]⟩
theorem print_walk (S : Nat → Prop) (w : World) (v : Value) (n : Nat) (cs : List Value) (l : List Fun) (he : EnvW 14 w) (hr : RowS S w 86 4 v n cs) (hn : n = l.length) (hn6 : n ≤ 1000000)
  (ho : ∀ (i : Nat) (f : Fun), l[i]? = some f → ∃ (vp vb : Value) (nb : Nat) (bcs : List Value), RowS S w 144 2 vp f.ps.length (psC f.ps) ∧ RowS S w 147 7 vb nb bcs ∧ StAt S w f.body bcs ∧ cs[i * 4]? = some (str f.nm) ∧ cs[i * 4 + 1]? = some (.int .i64 f.at') ∧ cs[i * 4 + 2]? = some vp ∧ cs[i * 4 + 3]? = some vb)
  (hp : ∀ f ∈ l, PbC f.body ∧ f.ps.length ≤ 1000000) (hl : (prT l).length ≤ 100000000000) :
  Calls Tryz.prog 15 #[v] w fun e w' => e = .returned (.string ⟨(prT l).toArray⟩) ∧ Below w.heap.size w w' := by
 obtain ⟨q, c, rfl⟩ := ze hr.1
 have HR : Hid (RowS S w 86 4 (.slice q n c) n cs) := hr
 have HO : Hid (∀ (i : Nat) (f : Fun), l[i]? = some f → ∃ (vp vb : Value) (nb : Nat) (bcs : List Value), RowS S w 144 2 vp f.ps.length (psC f.ps) ∧ RowS S w 147 7 vb nb bcs ∧ StAt S w f.body bcs ∧ cs[i * 4]? = some (str f.nm) ∧ cs[i * 4 + 1]? = some (.int .i64 f.at') ∧ cs[i * 4 + 2]? = some vp ∧ cs[i * 4 + 3]? = some vb) := ho
 have HP : Hid (∀ f ∈ l, PbC f.body ∧ f.ps.length ≤ 1000000) := hp
 have HL : Hid ((prT l).length ≤ 100000000000) := hl
 have HN : Hid (n = l.length) := hn
 obtain ⟨W0, hW0⟩ : ∃ W0, W0 = w.alloc (.cells #[.pointer none, .slice none 0 0] 83) := ⟨_, rfl⟩
 obtain ⟨b, hbb⟩ : ∃ b, b = w.heap.size := ⟨_, rfl⟩
 have hb0 : Below w.heap.size w W0 := by rw [hW0]; exact (Below.refl _ _).alloc (Nat.le_refl _) _
 have HB0 : Hid (Below w.heap.size w W0) := hb0
 have HD0 : Hid (Bd b b [] W0) := by rw [hbb]; exact bd_new W0 hW0
 have hf0 : FrB 14 b w W0 := FrB.of hb0 he.le
 have HE : Hid (EnvW b W0) := by
  have h1 := he.go hf0
  exact ⟨h1.env, h1.pow, by rw [hbb]; exact he.le, by rw [hbb]; exact hb0.size⟩
 have HK0 : Hid (Keeps S w W0) := fun k cs t _ _ hk => by rw [hb0.block k (Array.getElem?_eq_some_iff.1 hk).1]; exact hk
 have HK1 : Hid (Keeps (fun _ => True) w W0) := fun k cs t _ _ hk => by rw [hb0.block k (Array.getElem?_eq_some_iff.1 hk).1]; exact hk
 have HBW : Hid (b = w.heap.size) := hbb
 obtain ⟨out, hout⟩ : ∃ out : ByteArray, out = ⟨(prT l).toArray⟩ := ⟨_, rfl⟩
 have HOUT : Hid (out = ⟨(prT l).toArray⟩) := hout
 rw [← hout]
 clear hr ho hp hl hn he hb0 hf0 hout
 go_enter Tryz.func15, Tryz.ntmps15
 go_wp2_with fail
 rw [← hW0, ← hbb]
 have hi0 : Hid (Bd b b (prT (l.take 0)) W0 ∧ FrB b b W0 W0) := ⟨by simpa [prT] using HD0.out, FrB.refl _ _ _⟩
 clear hW0 hbb
 go_loopw [8] (fun v wr => ∃ i : Nat, i ≤ n ∧ v = .int .i64 i ∧ Hid (Bd b b (prT (l.take i)) wr ∧ FrB b b W0 wr)) (fun v _ => n - (intOf v).toNat)
 case atStart => exact ⟨0, Nat.zero_le _, rfl, hi0.out⟩
 case round =>
  clear hi0
  obtain ⟨i, hin, rfl, HI⟩ := hrel
  by_cases hlt : i < n
  ·obtain ⟨g, cap, e, -, -⟩ := HR.out.1.form (by omega)
   injection e with e1 e2 e3
   subst e1
   clear e2 e3
   obtain ⟨f, hf⟩ : ∃ f, l[i]? = some f := ⟨l[i]'(by have := HN.out; omega), List.getElem?_eq_getElem (by have := HN.out; omega)⟩
   obtain ⟨vp, vb, nb, bcs, hrp, hrb, hsb, k0, k1, k2, k3⟩ := HO.out i f hf
   obtain ⟨hpb, hps⟩ := HP.out f (List.mem_of_getElem? hf)
   obtain ⟨s2, c2, rfl⟩ := ze hrp.1
   obtain ⟨s3, c3, rfl⟩ := ze hrb.1
   obtain ⟨y, hy, hyt⟩ := zt f.nm
   have HY : Hid (y.data.toList = f.nm ∧ y.size = f.nm.length) := ⟨hyt, by rw [← hyt]; simp⟩
   rw [hy] at k0
   have HKr : Hid (Keeps (fun _ => True) w wr) := HK1.out.trans (HI.out.2.keeps (fun _ => True) HD0.out)
   have hrow := HKr.out.row (by decide) HR.out.1 (fun _ _ => trivial)
   have hc : ∀ j u, cs[j]? = some u → wr.cell? ⟨g, j, none⟩ = some u := fun j u hu => by
    have := hrow.cells (g := g) rfl j u hu
    rw [zL] at this
    exact this
   have q0 := hc _ _ k0
   have q1 := hc _ _ k1
   have q2 := hc _ _ k2
   have q3 := hc _ _ k3
   have HXP : Hid (∀ W, FrB b b W0 W → RowS S W 144 2 (.slice s2 f.ps.length c2) f.ps.length (psC f.ps)) := fun W h => hrp.kept (HK0.out.trans (h.keeps S HD0.out)) (by decide)
   have HXB : Hid (∀ W, FrB b b W0 W → RowS S W 147 7 (.slice s3 nb c3) nb bcs ∧ StAt S W f.body bcs) := fun W h => ⟨hrb.kept (HK0.out.trans (h.keeps S HD0.out)) (by decide), StAt.kept (HK0.out.trans (h.keeps S HD0.out)) _ _ hsb⟩
   have htk : l.take (i + 1) = l.take i ++ [f] := by rw [List.take_add_one, hf]; rfl
   have hj := prT_snoc (l.take i) f
   rw [← htk] at hj
   have HJ : Hid (prT (l.take (i + 1)) = prT (l.take i) ++ fuT f) := hj
   have hln := prT_len l (i + 1)
   rw [hj] at hln
   have HLn : Hid ((prT (l.take i)).length + (3 + f.nm.length + 1) + (paT f.ps).length + 1 + (blT [] f.body).length + 1 ≤ 100000000000) := by
    show _ ≤ _
    have := HL.out
    unfold fuT at hln
    simp only [List.length_append, List.length_cons, List.length_nil] at hln
    omega
   have HPB : Hid (PbC f.body) := hpb
   have HPS : Hid (f.ps.length ≤ 1000000) := hps
   have hyb : y.size ≤ 100000000000 := by rw [HY.out.2]; have := HLn.out; omega
   obtain ⟨fa, hfa⟩ : ∃ fa, fa = f.at' := ⟨_, rfl⟩
   obtain ⟨m2, hm2⟩ : ∃ m2, m2 = f.ps.length := ⟨_, rfl⟩
   obtain ⟨m3, hm3⟩ : ∃ m3, m3 = nb := ⟨_, rfl⟩
   rw [← hfa] at q1
   rw [← hm2] at q2 HXP
   rw [← hm3] at q3 HXB
   have HM2 : Hid (m2 = f.ps.length) := hm2
   have HWd : Hid (∀ W1, W1 = wr.alloc (.cells #[.string y, .int .i64 fa, .slice s2 m2 c2, .slice s3 m3 c3] 86) → FrB b b wr W1 ∧ W1.heap[wr.heap.size]? = some (.cells #[.string y, .int .i64 fa, .slice s2 m2 c2, .slice s3 m3 c3] 86) ∧ Below wr.heap.size wr W1) := fun W1 e => by
    have hb1 : Below wr.heap.size wr W1 := by rw [e]; exact (Below.refl _ _).alloc (Nat.le_refl _) _
    exact ⟨FrB.of hb1 (HE.out.go HI.out.2).le, by rw [e]; exact heap_alloc_last wr _, hb1⟩
   clear hrow hc k0 k1 k2 k3 hrp hrb hsb hpb hps hf htk hj hln hy hyt hfa hm2 hm3
   go_wp2_with (go_at_call 34; fail)
   obtain ⟨W1, hW1⟩ : ∃ W1, W1 = wr.alloc (.cells #[.string y, .int .i64 fa, .slice s2 m2 c2, .slice s3 m3 c3] 86) := ⟨_, rfl⟩
   obtain ⟨hfr, hq1, hb1⟩ := HWd.out W1 hW1
   obtain ⟨qq, hqq⟩ : ∃ qq, qq = wr.heap.size := ⟨_, rfl⟩
   rw [← hqq] at hq1
   have HF1 : Hid (FrB b b W0 W1) := HI.out.2.trans hfr
   have HD1 : Hid (Bd b b (prT (l.take i)) W1) := HI.out.1.below hb1
   have HQ1 : Hid (W1.heap[qq]? = some (.cells #[.string y, .int .i64 fa, .slice s2 m2 c2, .slice s3 m3 c3] 86)) := hq1
   rw [← hW1, ← hqq]
   clear hW1 hqq hfr hq1 hb1 q0 q1 q2 q3
   generalize hx1 : (⟨#[102, 110, 32]⟩ : ByteArray) ++ y ++ (⟨#[40]⟩ : ByteArray) = x1
   have ht1 : x1.data.toList = [102, 110, 32] ++ f.nm ++ [40] := by rw [← hx1, qu, qu, HY.out.1]
   have hz1 : x1.size = 3 + f.nm.length + 1 := by rw [← hx1, je, je, HY.out.2]; rfl
   refine (ws x1 HD1.out (HE.out.go HF1.out).le (by rw [hz1]; have := HLn.out; omega)).mono ?_
   rintro e w2 ⟨rfl, hd, hfx⟩
   rw [ht1] at hd
   have HD2 : Hid (Bd b b (prT (l.take i) ++ ([102, 110, 32] ++ f.nm ++ [40])) w2) := hd
   have HF2 : Hid (FrB b b W0 w2) := HF1.out.trans hfx
   have hQ2 := (hfx.keeps (fun _ => True) HD1.out) _ _ 86 trivial (by decide) HQ1.out
   have HQ2 : Hid (w2.heap[qq]? = some (.cells #[.string y, .int .i64 fa, .slice s2 m2 c2, .slice s3 m3 c3] 86)) := hQ2
   have z2 := z_ (i := 2) hQ2 rfl
   clear hd hfx hQ2 hx1 ht1 hz1
   go_wp2_with (go_at_call 35; fail)
   refine (pp_walk (xs := f.ps) S b b _ w2 _ (HE.out.go HF2.out) HD2.out (by rw [← HM2.out]; exact HXP.out w2 HF2.out) HPS.out (by have := HLn.out; simp at this ⊢; omega)).mono ?_
   rintro e w3 ⟨rfl, hd, hfx⟩
   have HD3 : Hid (Bd b b (prT (l.take i) ++ ([102, 110, 32] ++ f.nm ++ [40]) ++ paT f.ps) w3) := hd
   have HF3 : Hid (FrB b b W0 w3) := HF2.out.trans hfx
   have HQ3 : Hid (w3.heap[qq]? = some (.cells #[.string y, .int .i64 fa, .slice s2 m2 c2, .slice s3 m3 c3] 86)) := (hfx.keeps (fun _ => True) HD2.out) _ _ 86 trivial (by decide) HQ2.out
   clear hd hfx z2
   go_wp2_with (go_at_call 34; fail)
   refine (ws ⟨#[41]⟩ HD3.out (HE.out.go HF3.out).le (by show _ + 1 ≤ _; have := HLn.out; simp at this ⊢; omega)).mono ?_
   rintro e w4 ⟨rfl, hd, hfx⟩
   have HD4 : Hid (Bd b b (prT (l.take i) ++ ([102, 110, 32] ++ f.nm ++ [40]) ++ paT f.ps ++ [41]) w4) := hd
   have HF4 : Hid (FrB b b W0 w4) := HF3.out.trans hfx
   have hQ4 := (hfx.keeps (fun _ => True) HD3.out) _ _ 86 trivial (by decide) HQ3.out
   have z3 := z_ (i := 3) hQ4 rfl
   clear hd hfx hQ4
   go_wp2_with (go_at_call 36; fail)
   refine (HPB.out S b b _ w4 ⟨#[]⟩ _ _ _ (HE.out.go HF4.out) HD4.out (HXB.out w4 HF4.out).1 (HXB.out w4 HF4.out).2 (by have := HLn.out; show _ + (blT [] f.body).length ≤ _; simp at this ⊢; omega)).mono ?_
   rintro e w5 ⟨rfl, hd, hfx⟩
   have HD5 : Hid (Bd b b (prT (l.take i) ++ ([102, 110, 32] ++ f.nm ++ [40]) ++ paT f.ps ++ [41] ++ blT [] f.body) w5) := hd
   have HF5 : Hid (FrB b b W0 w5) := HF4.out.trans hfx
   clear hd hfx z3
   go_wp2_with (go_at_call 34; fail)
   refine (ws ⟨#[10]⟩ HD5.out (HE.out.go HF5.out).le (by show _ + 1 ≤ _; have := HLn.out; simp at this ⊢; omega)).mono ?_
   rintro e w6 ⟨rfl, hd, hfx⟩
   have HEnd : Hid (Bd b b (prT (l.take (i + 1))) w6 ∧ FrB b b W0 w6) := by
    refine ⟨?_, HF5.out.trans hfx⟩
    rw [HJ.out]
    unfold fuT
    simpa using hd
   clear hd hfx
   go_wp2
   exact ⟨⟨i + 1, by omega, by go_num, HEnd.out⟩, by simp [intOf]; omega⟩
  ·obtain rfl : i = n := by omega
   have HAll : Hid (Bd b b (prT l) wr ∧ FrB b b W0 wr) := by
    have h := HI.out
    rw [List.take_of_length_le (by rw [HN.out]; exact Nat.le_refl _)] at h
    exact h
   have HOut : Hid (Calls Tryz.prog 37 #[.pointer (some ⟨b, 0, none⟩)] wr fun e w' => e = .returned (.string out) ∧ Below b wr w') := by
    rw [HOUT.out]
    exact (Tryz.Builder_String_any_f b b (prT l) wr HAll.out.1 (HE.out.go HAll.out.2).le).mono fun e w' ⟨a, _, c⟩ => ⟨a, c⟩
   go_wp2_with (go_at_call 37; fail)
   refine HOut.out.mono ?_
   rintro e w2 ⟨rfl, hb2⟩
   have HBel : Hid (Below w.heap.size w w2) := by
    have h1 : Below b wr w2 := hb2
    have h2 : Below b W0 wr := HAll.out.2.low
    have h3 := h2.trans h1
    rw [HBW.out] at h3
    exact HB0.out.trans h3
   clear hb2
   go_wp2
   go_ret
   exact ⟨rfl, HBel.out⟩
end Go.Proofs.YtnfhpdbbfejioaaGreatDoor
