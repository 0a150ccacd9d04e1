/- writeHeld, writeCall, walked, over what write does. -/
import Derived.Test.YtpakgaegckkmnaaGreatDoorV2
namespace Go.Proofs.YtpakgaegckkmnaaGreatDoor
set_option linter.unusedVariables false
set_option linter.unusedSimpArgs false
open Go Go.RowKit

theorem near_le (m : By) : nearV m ≤ 6 := by
  rcases near_at pairsL m with ⟨J, h1, _, _, h4⟩ | ⟨_, h2⟩
  · show ((pairsL.find? (·.1 == m)).map (·.2)).getD 0 ≤ 6
    rw [h4]
    have h6 : ∀ J, J < 13 → (pairsL.getD J ([], 0)).2 ≤ 6 := by decide
    exact h6 J h1
  · show ((pairsL.find? (·.1 == m)).map (·.2)).getD 0 ≤ 6
    rw [h2]
    omega
theorem hold_len (t : Tr) (k : Nat) (s : By) : s.length ≤ (hold t k s).length := by
  unfold hold
  split
  · exact Nat.le_refl _
  · split
    · exact Nat.le_refl _
    · simp; omega
theorem hold_nd (c a n : Int) (nm op : By) (l r g : Tr) (k : Nat) (s : By) : hold (nd c a n nm op l r g) k s = if k ≤ holdsV (nd c a n nm op l r g) then s else [40] ++ s ++ [41] := rfl

set_option maxRecDepth 100000 in
set_option maxHeartbeats 4000000 in
theorem held_w {t : Tr} (IH : WrC t) (ht : t = .nil ∨ IsNd t) (k : Nat) (hk : k ≤ 100) (S : Nat → Prop) (B b : Nat) (s : By) (w : World) (v : Value) (he : EnvW B w) (hb : Bd B b s w) (hx : ExAt S w t v) (hl : s.length + (hold t k (wrT t)).length ≤ 100000000000) :
    Calls Tryz.prog 65 #[.pointer (some ⟨b, 0, none⟩), v, .int .i64 (k : Int)] w (WPost B b s (hold t k (wrT t)) w) := by
  rcases ht with rfl | ⟨c, a, n, nm, op, l, r, g, rfl⟩
  · have hv : v = .pointer none := by rw [ExAt] at hx; exact hx
    subst hv
    have H1 : Hid (Calls Tryz.prog 52 #[.pointer (some ⟨b, 0, none⟩), .pointer none] w (WPost B b s (wrT .nil) w)) := IH S B b s w _ he hb hx (by have := hold_len .nil k (wrT .nil); omega)
    have H1' : Hid (Calls Tryz.prog 52 #[.pointer (some ⟨b, 0, none⟩), .pointer none] w fun e w' => e = .returned (.tuple #[]) ∧ Bd B b (s ++ wrT .nil) w' ∧ FrB B b w w') := H1.out
    have HPo : Hid (∀ w', Bd B b (s ++ wrT .nil) w' → FrB B b w w' → WPost B b s (hold .nil k (wrT .nil)) w (.returned (.tuple #[])) w') := fun w' h1 h2 => ⟨rfl, h1, h2⟩
    generalize hG : WPost B b s (hold .nil k (wrT .nil)) w = G at *
    clear H1 he hb hx hl IH hG
    go_enter Tryz.func65, Tryz.ntmps65
    go_wp2_with (go_at_call 52; fail)
    refine H1'.out.mono ?_
    rintro e w2 ⟨rfl, hd1, hf1⟩
    have HD2 : Hid (Bd B b (s ++ wrT .nil) w2) := hd1
    have HF2 : Hid (FrB B b w w2) := hf1
    clear hd1 hf1
    go_wp2
    refine bodyPost_ret (results_none rfl _ _ _) rfl ?_
    exact HPo.out w2 HD2.out HF2.out
  · obtain ⟨q, hq⟩ : ∃ q, v = .pointer (some ⟨q, 0, none⟩) := IsNd.ptr (isNd _ _ _ _ _ _ _ _) hx
    subst hq
    obtain ⟨t, htt⟩ : ∃ t, t = nd c a n nm op l r g := ⟨_, rfl⟩
    have HH : Hid (Calls Tryz.prog 82 #[.pointer (some ⟨q, 0, none⟩)] w fun e w' => e = .returned (.int .i64 (holdsV t : Nat)) ∧ Below w.heap.size w w') := by rw [htt]; exact holds_at he.env hx
    rw [hold_nd]
    rw [← htt] at IH hx hl ⊢
    obtain ⟨hv, hhv⟩ : ∃ hv, hv = holdsV t := ⟨_, rfl⟩
    have hv100 : hv ≤ 100 := by
      rw [hhv, htt]
      unfold holdsV
      simp only
      have := near_le op
      split
      · omega
      · split <;> omega
    have HX : Hid (ExAt S w t (.pointer (some ⟨q, 0, none⟩))) := hx
    have HE : Hid (EnvW B w) := he
    have HB : Hid (Bd B b s w) := hb
    have HL : Hid (s.length + (wrT t).length ≤ 100000000000) := by show _ ≤ _; have := hold_len t k (wrT t); omega
    have HL2 : Hid (¬ k ≤ holdsV t → s.length + (wrT t).length + 2 ≤ 100000000000) := fun h => by rw [htt, hold_nd, ← htt, if_neg h] at hl; simp at hl; omega
    have HIH : Hid (WrC t) := IH
    rw [← hhv] at HH HL2 ⊢
    clear he hb hx hl IH hhv htt
    by_cases hle : k ≤ hv
    · rw [if_pos hle]
      have hd : decide ((hv : Int) < (k : Int)) = false := by simp; omega
      have HPo : Hid (∀ w', Bd B b (s ++ wrT t) w' → FrB B b w w' → WPost B b s (wrT t) w (.returned (.tuple #[])) w') := fun w' h1 h2 => ⟨rfl, h1, h2⟩
      generalize hG : WPost B b s (wrT t) w = G at *
      clear hG
      go_enter Tryz.func65, Tryz.ntmps65
      go_wp2_with (go_at_call 82; fail)
      refine HH.out.mono ?_
      rintro e w1 ⟨rfl, hb1⟩
      have HB1 : Hid (Below w.heap.size w w1) := hb1
      clear hb1
      go_wp2_with (go_at_call 52; fail)
      have hf := FrB.of (b := b) HB1.out HE.out.le
      refine (HIH.out S B b s w1 _ (HE.out.go hf) (HB.out.below HB1.out) ((hf.keeps S HB.out).ex HX.out) (by have := HL.out; omega)).mono ?_
      rintro e w2 ⟨rfl, hd1, hf1⟩
      have HD2 : Hid (Bd B b (s ++ wrT t) w2) := hd1
      have HF2 : Hid (FrB B b w w2) := hf.trans hf1
      clear hd1 hf1 hf
      go_wp2
      refine bodyPost_ret (results_none rfl _ _ _) rfl ?_
      exact HPo.out w2 HD2.out HF2.out
    · rw [if_neg hle]
      have HL3 : Hid (s.length + (wrT t).length + 2 ≤ 100000000000) := HL2.out hle
      have HPo : Hid (∀ w', Bd B b (s ++ [40] ++ wrT t ++ [41]) w' → FrB B b w w' → WPost B b s ([40] ++ wrT t ++ [41]) w (.returned (.tuple #[])) w') := fun w' h1 h2 => ⟨rfl, by simpa using h1, h2⟩
      generalize hG : WPost B b s ([40] ++ wrT t ++ [41]) w = G at *
      clear hG
      go_enter Tryz.func65, Tryz.ntmps65
      go_wp2_with (go_at_call 82; fail)
      refine HH.out.mono ?_
      rintro e w1 ⟨rfl, hb1⟩
      have hf := FrB.of (b := b) hb1 HE.out.le
      have HF1 : Hid (FrB B b w w1) := hf
      have HD1 : Hid (Bd B b s w1) := HB.out.below hb1
      clear hb1 hf
      go_wp2_with (go_at_call 17; fail)
      refine (ws ⟨#[40]⟩ HD1.out (HE.out.go HF1.out).le (by show _ + 1 ≤ _; have := HL3.out; omega)).mono ?_
      rintro e w2 ⟨rfl, hd2, hf2⟩
      have HD2 : Hid (Bd B b (s ++ [40]) w2) := hd2
      have HF2 : Hid (FrB B b w w2) := HF1.out.trans hf2
      clear hd2 hf2
      go_wp2_with (go_at_call 52; fail)
      refine (HIH.out S B b _ w2 _ (HE.out.go HF2.out) HD2.out ((HF2.out.keeps S HB.out).ex HX.out) (by have := HL3.out; simp; omega)).mono ?_
      rintro e w3 ⟨rfl, hd3, hf3⟩
      have HD3 : Hid (Bd B b (s ++ [40] ++ wrT t) w3) := hd3
      have HF3 : Hid (FrB B b w w3) := HF2.out.trans hf3
      clear hd3 hf3
      go_wp2_with (go_at_call 17; fail)
      refine (ws ⟨#[41]⟩ HD3.out (HE.out.go HF3.out).le (by show _ + 1 ≤ _; have := HL3.out; simp; omega)).mono ?_
      rintro e w4 ⟨rfl, hd4, hf4⟩
      have HD4 : Hid (Bd B b (s ++ [40] ++ wrT t ++ [41]) w4) := hd4
      have HF4 : Hid (FrB B b w w4) := HF3.out.trans hf4
      clear hd4 hf4
      go_wp2
      go_end0
      exact HPo.out w4 HD4.out HF4.out

theorem app_toList (a b : ByteArray) : (a ++ b).data.toList = a.data.toList ++ b.data.toList := by simp
theorem app_size (a b : ByteArray) : (a ++ b).size = a.size + b.size := by simp
/-- Args, one behind the other. -/
def joinT : List Tr → By
  | [] => []
  | [x] => wrT x
  | x :: y :: xs => wrT x ++ [44, 32] ++ joinT (y :: xs)
theorem join_chain : ∀ xs : List Tr, wrT (chain xs) = joinT xs
  | [] => by simp [chain, wrT, joinT]
  | [x] => by simp [chain, wrT, joinT, sep]
  | x :: y :: xs => by
    have ih := join_chain (y :: xs)
    have e : wrT (chain (x :: y :: xs)) = wrT x ++ sep (chain (y :: xs)) ++ wrT (chain (y :: xs)) := by
      show wrT (.slice [x] [chain (y :: xs)]) = _
      rw [wrT]
    rw [e, ih]
    rfl
theorem join_snoc (x : Tr) : ∀ l : List Tr, joinT (l ++ [x]) = joinT l ++ (if l = [] then [] else [44, 32]) ++ wrT x
  | [] => by simp [joinT]
  | [y] => by simp [joinT]
  | y :: z :: l => by
    have ih := join_snoc x (z :: l)
    simp only [List.cons_append, joinT] at ih ⊢
    rw [ih]
    simp
theorem join_len : ∀ (xs : List Tr) (i : Nat), (joinT (xs.take i)).length ≤ (joinT xs).length
  | [], i => by simp [joinT]
  | [x], 0 => by simp [joinT]
  | [x], i + 1 => by simp [joinT]
  | x :: y :: xs, 0 => by simp [joinT]
  | x :: y :: xs, 1 => by simp [joinT]
  | x :: y :: xs, i + 2 => by
    have ih := join_len (y :: xs) (i + 1)
    simp only [List.take_succ_cons, joinT, List.length_append] at ih ⊢
    omega
theorem chain_open {S : Nat → Prop} {w : World} : ∀ (ys : List Value) (g : Tr), ExAt S w g (.tuple ys.toArray) → ∃ xs, g = chain xs ∧ xs.length = ys.length ∧ ∀ (i : Nat) (x : Tr) (y : Value), xs[i]? = some x → ys[i]? = some y → ExAt S w x y
  | [], g, h => by
    unfold ExAt at h
    split at h
    · obtain ⟨_, _, _, _, _, _, e, _⟩ := h; cases e
    · obtain ⟨y, ys, e, _⟩ := h
      injection e with e
      have := congrArg Array.toList e
      simp at this
    · exact ⟨[], rfl, rfl, fun i x y h => by simp at h⟩
    · cases h
    · exact h.elim
  | y :: ys, g, h => by
    unfold ExAt at h
    split at h
    · obtain ⟨_, _, _, _, _, _, e, _⟩ := h; cases e
    · rename_i x g'
      obtain ⟨y', ys', e, hx, hg⟩ := h
      injection e with e
      have e2 := congrArg Array.toList e
      simp at e2
      obtain ⟨rfl, rfl⟩ := e2
      obtain ⟨xs, rfl, hl, hi⟩ := chain_open ys _ hg
      refine ⟨x :: xs, rfl, by simp [hl], fun i a b ha hb => ?_⟩
      cases i with
      | zero =>
        simp at ha hb
        subst ha; subst hb
        exact hx
      | succ i => exact hi i a b (by simpa using ha) (by simpa using hb)
    · injection h with h
      have := congrArg Array.toList h
      simp at this
    · cases h
    · exact h.elim

set_option maxRecDepth 100000 in
set_option maxHeartbeats 4000000 in
theorem call_w {xs : List Tr} (IH : ∀ x ∈ xs, WrC x) (S : Nat → Prop) (B b : Nat) (s : By) (w : World) (cl : ByteArray) (q : Option Addr) (n c : Nat) (ys : List Value) (he : EnvW B w) (hb : Bd B b s w) (ho : w.ownsRow 0 84 1 (.slice q n c) n ys) (hn : n = xs.length) (hys : ys.length = n) (hx : ∀ (i : Nat) (x : Tr) (y : Value), xs[i]? = some x → ys[i]? = some y → ExAt S w x y) (hl : s.length + cl.size + (joinT xs).length + 2 ≤ 100000000000) (hn2 : n ≤ 1000000) :
    Calls Tryz.prog 67 #[.pointer (some ⟨b, 0, none⟩), .string cl, .slice q n c] w (WPost B b s ((cl.data.toList ++ [40]) ++ joinT xs ++ [41]) w) := by
  have HPo : Hid (∀ w', Bd B b (s ++ (cl.data.toList ++ [40]) ++ joinT xs ++ [41]) w' → FrB B b w w' → WPost B b s ((cl.data.toList ++ [40]) ++ joinT xs ++ [41]) w (.returned (.tuple #[])) w') := fun w' h1 h2 => ⟨rfl, by simpa using h1, h2⟩
  generalize hG : WPost B b s ((cl.data.toList ++ [40]) ++ joinT xs ++ [41]) w = G at *
  have HE : Hid (EnvW B w) := he
  have HB : Hid (Bd B b s w) := hb
  have HL : Hid (s.length + cl.size + (joinT xs).length + 2 ≤ 100000000000) := hl
  have HO : Hid (w.ownsRow 0 84 1 (.slice q n c) n ys) := ho
  have HN : Hid (n = xs.length ∧ ys.length = n) := ⟨hn, hys⟩
  have HX : Hid (∀ (i : Nat) (x : Tr) (y : Value), xs[i]? = some x → ys[i]? = some y → ExAt S w x y) := hx
  have HIH : Hid (∀ x ∈ xs, WrC x) := IH
  have hcl : cl.size ≤ 100000000000 := by omega
  clear hG he hb hl ho hn hys hx IH
  go_enter Tryz.func67, Tryz.ntmps67
  go_wp2_with (go_at_call 17; fail)
  generalize hx1 : cl ++ (⟨#[40]⟩ : ByteArray) = x1
  have hz1 : x1.size = cl.size + 1 := by rw [← hx1, app_size]; rfl
  have ht1 : x1.data.toList = cl.data.toList ++ [40] := by rw [← hx1, app_toList]
  refine (ws x1 HB.out HE.out.le (by have := HL.out; omega)).mono ?_
  rintro e w1 ⟨rfl, hd1, hf1⟩
  rw [ht1] at hd1
  clear hx1 hz1 ht1
  have HD1 : Hid (Bd B b (s ++ (cl.data.toList ++ [40])) w1) := hd1
  have HF1 : Hid (FrB B b w w1) := hf1
  clear hd1 hf1
  have HT : Hid (∀ i, i ≤ n → (joinT (xs.take i)).length ≤ (joinT xs).length) := fun i hi => join_len xs i
  have hi0 : Hid (Bd B b (s ++ (cl.data.toList ++ [40]) ++ joinT (xs.take 0)) w1 ∧ FrB B b w w1) := ⟨by simpa [joinT] using HD1.out, HF1.out⟩
  go_wp2_with fail
  go_loopw [14] (fun v wr => ∃ i : Nat, i ≤ n ∧ v = .int .i64 i ∧ Hid (Bd B b (s ++ (cl.data.toList ++ [40]) ++ joinT (xs.take i)) wr ∧ FrB B b w wr)) (fun v _ => n - (intOf v).toNat)
  case atStart => exact ⟨0, Nat.zero_le _, rfl, hi0.out⟩
  case round =>
    clear hi0
    obtain ⟨i, hin, rfl, HI⟩ := hrel
    by_cases hlt : i < n
    · obtain ⟨g, cap, e, -, -⟩ := HO.out.form (by omega)
      injection e with e1 e2 e3
      subst e1
      clear e2 e3
      obtain ⟨hN1, hN2⟩ := HN.out
      obtain ⟨x, hx⟩ : ∃ x, xs[i]? = some x := ⟨xs[i]'(by omega), List.getElem?_eq_getElem (by omega)⟩
      obtain ⟨y, hy⟩ : ∃ y, ys[i]? = some y := ⟨ys[i]'(by omega), List.getElem?_eq_getElem (by omega)⟩
      have hrow := (HI.out.2.keeps (fun _ => True) HB.out).row (by decide) HO.out (fun _ _ => trivial)
      have hc : wr.cell? ⟨g, i, none⟩ = some y := by
        have := hrow.cells (g := g) rfl i y hy
        by_cases h : i = 0
        · subst h
          simpa [Addr.add] using this
        · simpa [Addr.add, h] using this
      have HXi : Hid (ExAt S w x y) := HX.out i x y hx hy
      have HWx : Hid (WrC x) := HIH.out x (List.mem_of_getElem? hx)
      have htk : xs.take (i + 1) = xs.take i ++ [x] := by rw [List.take_add_one, hx]; rfl
      have hj := join_snoc x (xs.take i)
      rw [← htk] at hj
      have HJ : Hid (joinT (xs.take (i + 1)) = joinT (xs.take i) ++ (if xs.take i = [] then [] else [44, 32]) ++ wrT x) := hj
      have hlen := HT.out (i + 1) (by omega)
      rw [hj] at hlen
      simp only [List.length_append] at hlen
      have HLn : Hid ((joinT (xs.take i)).length + ((if xs.take i = [] then [] else [44, 32]) : By).length + (wrT x).length ≤ (joinT xs).length) := by show _ ≤ _; omega
      have HNn : Hid (xs.length = n) := hN1.symm
      clear hN1 hN2 hx hy hrow htk hj hlen
      by_cases h0 : i = 0
      · subst h0
        go_wp2_with (go_at_call 52; fail)
        refine (HWx.out S B b _ wr y (HE.out.go HI.out.2) HI.out.1 ((HI.out.2.keeps S HB.out).ex HXi.out) (by have := HL.out; have := HLn.out; simp at this ⊢; omega)).mono ?_
        rintro e w3 ⟨rfl, hd3, hf3⟩
        have HEnd : Hid (Bd B b (s ++ (cl.data.toList ++ [40]) ++ joinT (xs.take (0 + 1))) w3 ∧ FrB B b w w3) := by
          refine ⟨?_, HI.out.2.trans hf3⟩
          rw [HJ.out]
          simpa [joinT] using hd3
        clear hd3 hf3
        go_wp2
        exact ⟨⟨1, by omega, by go_num, HEnd.out⟩, by simp [intOf]; omega⟩
      · have hpos : 0 < i := by omega
        have HNe : Hid (¬ xs.take i = []) := fun e => by
          have := congrArg List.length e
          rw [List.length_take, HNn.out] at this
          simp at this
          omega
        go_wp2_with (go_at_call 17; fail)
        refine (ws ⟨#[44, 32]⟩ HI.out.1 (HE.out.go HI.out.2).le (by show _ + 2 ≤ _; have := HL.out; have := HLn.out; rw [if_neg HNe.out] at this; simp at this ⊢; have : cl.data.size = cl.size := rfl; omega)).mono ?_
        rintro e w2 ⟨rfl, hd2, hf2⟩
        have HD2 : Hid (Bd B b (s ++ (cl.data.toList ++ [40]) ++ joinT (xs.take i) ++ [44, 32]) w2) := hd2
        have HF2 : Hid (FrB B b w w2) := HI.out.2.trans hf2
        clear hd2 hf2
        go_wp2_with (go_at_call 52; fail)
        refine (HWx.out S B b _ w2 y (HE.out.go HF2.out) HD2.out ((HF2.out.keeps S HB.out).ex HXi.out) (by have := HL.out; have := HLn.out; rw [if_neg HNe.out] at this; simp at this ⊢; have : cl.data.size = cl.size := rfl; omega)).mono ?_
        rintro e w3 ⟨rfl, hd3, hf3⟩
        have HEnd : Hid (Bd B b (s ++ (cl.data.toList ++ [40]) ++ joinT (xs.take (i + 1))) w3 ∧ FrB B b w w3) := by
          refine ⟨?_, HF2.out.trans hf3⟩
          rw [HJ.out, if_neg HNe.out]
          simpa using hd3
        clear hd3 hf3
        go_wp2
        exact ⟨⟨i + 1, by omega, by go_num, HEnd.out⟩, by simp [intOf]; omega⟩
    · obtain rfl : i = n := by omega
      have HAll : Hid (Bd B b (s ++ (cl.data.toList ++ [40]) ++ joinT xs) wr ∧ FrB B b w wr) := by
        have h := HI.out
        rw [List.take_of_length_le (by rw [HN.out.1]; exact Nat.le_refl _)] at h
        exact h
      go_wp2_with (go_at_call 17; fail)
      refine (ws ⟨#[41]⟩ HAll.out.1 (HE.out.go HAll.out.2).le (by show _ + 1 ≤ _; have := HL.out; simp; have : cl.data.size = cl.size := rfl; omega)).mono ?_
      rintro e w2 ⟨rfl, hd2, hf2⟩
      have HD2 : Hid (Bd B b (s ++ (cl.data.toList ++ [40]) ++ joinT xs ++ [41]) w2) := hd2
      have HF2 : Hid (FrB B b w w2) := HAll.out.2.trans hf2
      clear hd2 hf2
      go_wp2
      go_end0
      exact HPo.out w2 HD2.out HF2.out
end Go.Proofs.YtpakgaegckkmnaaGreatDoor
