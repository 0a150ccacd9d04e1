/- Statements that are read are written as the model says. printParams walked. Print walked. Plain: what is read is written, and not long: statements. Plain: what is read is written, and not long: functions, programs; Parse and Print together. Plain: places do not matter: tokens at other places are the same tree, but for places. Plain: places do not matter to the writer; what is read is not read beyond. Plain: what is read is not read beyond: expressions. Plain: what is read is not read beyond: statements, functions. Plain: what is read is not read beyond: statements, functions; programs one behind the other. Plain: programs, one behind the other; texts, one behind the other. Plain: two programs, one behind the other, are the functions of both. The text that parsed asks about. Programs in memory; parsed. errors.As at an *api.At, walked at this seat's types; Tell of it. TreeJoins, walked. What the cards of tree share: what the walks read of package variables, out of the condition and the world's shape. -/
import Derived.Test.YtpakgaegckkmnaaGreatDoorV9
import Derived.Test.YtpakgaegckkmnaaGreatDoorVD
import Derived.LaidEql
import Derived.Stop.Asserts
import Derived.RowKitTokens
import Derived.Test.YtpakgaegckkmnaaGreatDoorRows
import Derived.ProofKit
import Derived.OpenShut
import Derived.ChangeOld
import Derived.Below
import Derived.Stop.Joined
import Derived.Stop.LaidErr
import Derived.Lib.SmallJoins
import Derived.Lib.LaidTab
import Derived.LaidSub
import Derived.LaidHandle
import Derived.Lay
import Derived.Deep.Slices
import Derived.Shelf.Vars
namespace Go.Proofs.YtpakgaegckkmnaaGreatDoor
set_option linter.unusedVariables false
set_option linter.unusedSimpArgs false
open Go Go.RowKit

theorem isCe_chain : ∀ xs : List Tr, isCe (chain xs) = decide (xs.length = 0)
  | [] => rfl
  | x :: xs => by simp [isCe, chain]
/-- The row of a chain of statements has as many. -/
theorem row_count {S : Nat → Prop} {w : World} {v : Value} {n : Nat} {cs : List Value} {xs : List Tr} (hr : RowS S w 86 7 v n cs) (hs : StAt S w (chain xs) cs) : n = xs.length := by
  have h1 := (sts_open xs cs hs).1
  have h2 := hr.1.1
  omega
theorem ps_all {c a : Int} {nm : By} {ix v th el : Tr} (c1 : 1 ≤ c) (c8 : c ≤ 8) (IX : WrC ix) (IV : WrC v) (IT : PbC th) (IE : PbC el) {xs : List Tr} (hel : el = chain xs) : PsC (st c a nm ix v th el) := by
  intro S B b s w lf cs he hb hs hl
  obtain ⟨pi, pv, vt, ve, nt, ne, ts, es, rest, ecs, hxi, hxv, hrt, hst, hre, hse, hre2⟩ := st_open hs
  have hrest : rest = [] := by
    have : StAt S w (.slice [] []) rest := hre2
    rw [StAt] at this
    exact this
  subst hrest
  obtain ⟨s5, c5, rfl⟩ := own_slice hrt.1
  obtain ⟨s6, c6, rfl⟩ := own_slice hre.1
  have hcs : cs = #[.int .i64 c, .int .i64 a, .string ⟨nm.toArray⟩, .pointer pi, .pointer pv, .slice s5 nt c5, .slice s6 ne c6] := by
    have h := congrArg List.toArray ecs
    rw [Array.toArray_toList] at h
    exact h
  subst hcs
  have hy : (⟨nm.toArray⟩ : ByteArray).data.toList = nm := by simp
  have hne : ne = xs.length := row_count hre (by rw [← hel]; exact hse)
  rcases (by omega : c = 1 ∨ c = 2 ∨ c = 3 ∨ c = 4 ∨ c = 5 ∨ c = 6 ∨ c = 7 ∨ c = 8) with rfl | rfl | rfl | rfl | rfl | rfl | rfl | rfl
  · have e : smT lf.data.toList (st 1 a nm ix v th el) = [118, 97, 114, 32] ++ nm ++ [32, 61, 32] ++ wrT v ++ [59] := by simp [smT]
    rw [e] at hl ⊢
    exact ps_var (th := th) (el := el) IV S B b s w _ pi pv s5 nt c5 s6 ne c6 lf hy he hb hxi hxv hl
  · have e : smT lf.data.toList (st 2 a nm ix v th el) = nm ++ [32, 61, 32] ++ wrT v ++ [59] := by simp [smT]
    rw [e] at hl ⊢
    exact ps_set (th := th) (el := el) IV S B b s w _ pi pv s5 nt c5 s6 ne c6 lf hy he hb hxi hxv hl
  · have e : smT lf.data.toList (st 3 a nm ix v th el) = nm ++ ([91] ++ wrT ix ++ [93]) ++ [32, 61, 32] ++ wrT v ++ [59] := by simp [smT]
    rw [e] at hl ⊢
    exact ps_put (th := th) (el := el) IV IX S B b s w _ pi pv s5 nt c5 s6 ne c6 lf hy he hb hxi hxv hl
  · by_cases h0 : xs.length = 0
    · have e : smT lf.data.toList (st 4 a nm ix v th el) = ([105, 102] ++ [32, 40]) ++ wrT v ++ [41] ++ blT lf.data.toList th := by simp [smT, hel, isCe_chain, h0]
      rw [e] at hl ⊢
      exact ps_if (el := el) IV IT S B b s w _ pi pv s5 nt c5 s6 ne c6 lf hy he hb hxi hxv hrt hst (by omega) hl
    · have e : smT lf.data.toList (st 4 a nm ix v th el) = ([105, 102] ++ [32, 40]) ++ wrT v ++ [41] ++ blT lf.data.toList th ++ ([32, 101, 108, 115, 101] ++ blT lf.data.toList el) := by
        have : isCe el = false := by rw [hel, isCe_chain]; simp [h0]
        simp [smT, this]
      rw [e] at hl ⊢
      exact ps_else IV IT IE S B b s w _ pi pv s5 nt c5 s6 ne c6 lf hy he hb hxi hxv hrt hst hre hse (by omega) hl
  · have e : smT lf.data.toList (st 5 a nm ix v th el) = ([119, 104, 105, 108, 101] ++ [32, 40]) ++ wrT v ++ [41] ++ blT lf.data.toList th := by simp [smT]
    rw [e] at hl ⊢
    exact ps_while (el := el) IV IT S B b s w _ pi pv s5 nt c5 s6 ne c6 lf hy he hb hxi hxv hrt hst hl
  · have e : smT lf.data.toList (st 6 a nm ix v th el) = [114, 101, 116, 117, 114, 110, 32] ++ wrT v ++ [59] := by simp [smT]
    rw [e] at hl ⊢
    exact ps_return (th := th) (el := el) IV S B b s w _ pi pv s5 nt c5 s6 ne c6 lf hy he hb hxi hxv hl
  · have e : smT lf.data.toList (st 7 a nm ix v th el) = [112, 114, 105, 110, 116, 32] ++ wrT v ++ [59] := by simp [smT]
    rw [e] at hl ⊢
    exact ps_print (th := th) (el := el) IV S B b s w _ pi pv s5 nt c5 s6 ne c6 lf hy he hb hxi hxv hl
  · have e : smT lf.data.toList (st 8 a nm ix v th el) = wrT v ++ [59] := by simp [smT]
    rw [e] at hl ⊢
    exact ps_do (nm := nm) (th := th) (el := el) IV S B b s w _ pi pv s5 nt c5 s6 ne c6 lf hy he hb hxi hxv hl

def chl : Tr → Nat
  | .slice [_] [g] => chl g + 1
  | _ => 0
theorem chl_chain : ∀ xs : List Tr, chl (chain xs) = xs.length
  | [] => rfl
  | x :: xs => by simp [chain, chl, chl_chain xs]
end Go.Proofs.YtpakgaegckkmnaaGreatDoor

namespace Go.Proofs.YtpakgaegckkmnaaGreatDoor
set_option linter.unusedVariables false
set_option linter.unusedSimpArgs false
open Go Go.RowKit

/-- A parameter, parameters, written. -/
def paO (x : By × Int) : By := (x.1 ++ [58, 32]) ++ (if x.2 = 2 then [97, 114, 114] else [105, 110, 116])
def paT : List (By × Int) → By
  | [] => []
  | [x] => paO x
  | x :: y :: xs => paO x ++ [44, 32] ++ paT (y :: xs)
theorem paT_snoc (x : By × Int) : ∀ l, paT (l ++ [x]) = paT l ++ (if l = [] then [] else [44, 32]) ++ paO x
  | [] => by simp [paT]
  | [y] => by simp [paT]
  | y :: z :: l => by
    have ih := paT_snoc x (z :: l)
    simp only [List.cons_append, paT] at ih ⊢
    rw [ih]
    simp
theorem paT_len : ∀ (xs : List (By × Int)) (i : Nat), (paT (xs.take i)).length ≤ (paT xs).length
  | [], i => by simp [paT]
  | [x], 0 => by simp [paT]
  | [x], i + 1 => by simp [paT]
  | x :: y :: xs, 0 => by simp [paT]
  | x :: y :: xs, 1 => by simp [paT]
  | x :: y :: xs, i + 2 => by
    have ih := paT_len (y :: xs) (i + 1)
    simp only [List.take_succ_cons, paT, List.length_append] at ih ⊢
    omega
theorem psC_get : ∀ (xs : List (By × Int)) (i : Nat) (x : By × Int), xs[i]? = some x → (psC xs)[i * 2]? = some (str x.1) ∧ (psC xs)[i * 2 + 1]? = some (.int .i64 x.2)
  | [], i, x, h => by simp at h
  | y :: xs, 0, x, h => by
    simp at h
    subst h
    exact ⟨rfl, rfl⟩
  | y :: xs, i + 1, x, h => by
    have ih := psC_get xs i x (by simpa using h)
    rw [show (i + 1) * 2 = i * 2 + 2 by omega, show i * 2 + 2 + 1 = i * 2 + 1 + 2 by omega]
    exact ih

set_option maxRecDepth 100000 in
set_option maxHeartbeats 4000000 in
theorem pp_walk {xs : List (By × Int)} (S : Nat → Prop) (B b : Nat) (s : By) (w : World) (v : Value) (he : EnvW B w) (hb : Bd B b s w) (hr : RowS S w 83 2 v xs.length (psC xs)) (hx6 : xs.length ≤ 1000000) (hl : s.length + (paT xs).length ≤ 100000000000) :
    Calls Tryz.prog 18 #[.pointer (some ⟨b, 0, none⟩), v] w (WPost B b s (paT xs) w) := by
  obtain ⟨q, c, rfl⟩ := own_slice hr.1
  have HE : Hid (EnvW B w) := he
  have HB : Hid (Bd B b s w) := hb
  have HR : Hid (RowS S w 83 2 (.slice q xs.length c) xs.length (psC xs)) := hr
  have HL : Hid (s.length + (paT xs).length ≤ 100000000000) := hl
  have HPo : Hid (∀ w', Bd B b (s ++ paT xs) w' → FrB B b w w' → WPost B b s (paT xs) w (.returned (.tuple #[])) w') := fun w' h1 h2 => ⟨rfl, h1, h2⟩
  generalize hG : WPost B b s (paT xs) w = G at *
  have hi0 : Hid (Bd B b (s ++ paT (xs.take 0)) w ∧ FrB B b w w) := ⟨by simpa [paT] using hb, FrB.refl _ _ _⟩
  obtain ⟨n, hn⟩ : ∃ n, n = xs.length := ⟨_, rfl⟩
  have HN : Hid (n = xs.length) := hn
  rw [← hn] at HR hx6 ⊢
  clear he hb hr hl hG hn
  go_enter Tryz.func18, Tryz.ntmps18
  go_wp2_with fail
  go_loopw [8] (fun v wr => ∃ i : Nat, i ≤ n ∧ v = .int .i64 i ∧ Hid (Bd B b (s ++ paT (xs.take i)) wr ∧ FrB B b w wr)) (fun v _ => n - (intOf v).toNat)
  case atStart => exact ⟨0, Nat.zero_le _, rfl, hi0.out⟩
  case round =>
    clear hi0
    obtain ⟨i, hin, rfl, HI⟩ := hrel
    by_cases hlt : i < n
    · obtain ⟨g, cap, e, -, -⟩ := HR.out.1.form (by omega)
      injection e with e1 e2 e3
      subst e1
      clear e2 e3
      obtain ⟨x, hx⟩ : ∃ x, xs[i]? = some x := ⟨xs[i]'(by have := HN.out; omega), List.getElem?_eq_getElem (by have := HN.out; omega)⟩
      obtain ⟨hc0, hc1⟩ := psC_get xs i x hx
      obtain ⟨y, hy, hyt⟩ := str_y x.1
      have hyz : y.size = x.1.length := by rw [← hyt]; simp
      have HY : Hid (y.data.toList = x.1 ∧ y.size = x.1.length) := ⟨hyt, hyz⟩
      rw [hy] at hc0
      have hrow := (HI.out.2.keeps (fun _ => True) HB.out).row (by decide) HR.out.1 (fun _ _ => trivial)
      have q0 : wr.cell? ⟨g, i * 2, none⟩ = some (.string y) := by
        have := hrow.cells (g := g) rfl (i * 2) _ hc0
        rw [add_plain'] at this
        exact this
      have q1 : wr.cell? ⟨g, i * 2 + 1, none⟩ = some (.int .i64 x.2) := by
        have := hrow.cells (g := g) rfl (i * 2 + 1) _ hc1
        rw [add_plain'] at this
        exact this
      have htk : xs.take (i + 1) = xs.take i ++ [x] := by rw [List.take_add_one, hx]; rfl
      have hj := paT_snoc x (xs.take i)
      rw [← htk] at hj
      have HJ : Hid (paT (xs.take (i + 1)) = paT (xs.take i) ++ (if xs.take i = [] then [] else [44, 32]) ++ paO x) := hj
      have hln := paT_len xs (i + 1)
      rw [hj] at hln
      have HLn : Hid ((paT (xs.take i)).length + ((if xs.take i = [] then [] else [44, 32]) : By).length + (x.1.length + 2) + 3 ≤ (paT xs).length) := by
        show _ ≤ _
        have h3 : (paO x).length = x.1.length + 2 + 3 := by unfold paO; split <;> simp
        simp only [List.length_append] at hln
        omega
      have hyb : y.size ≤ 100000000000 := by rw [hyz]; have := HLn.out; have := HL.out; omega
      obtain ⟨ty, hty⟩ : ∃ ty, ty = x.2 := ⟨_, rfl⟩
      have HTy : Hid (ty = x.2) := hty
      rw [← hty] at q1
      have HWd : Hid (∀ W1, W1 = wr.alloc (.cells #[.string y, .int .i64 ty] 83) → FrB B b wr W1 ∧ W1.heap[wr.heap.size]? = some (.cells #[.string y, .int .i64 ty] 83) ∧ Below wr.heap.size wr W1) := fun W1 e => by
        have hb1 : Below wr.heap.size wr W1 := by rw [e]; exact (Below.refl _ _).alloc (Nat.le_refl _) _
        exact ⟨FrB.of hb1 (HE.out.go HI.out.2).le, by rw [e]; exact heap_alloc_last wr _, hb1⟩
      clear hrow hc0 hc1 hx htk hj hln hy hyt hyz hty
      by_cases h0 : i = 0
      · subst h0
        go_wp2_with (go_at_call 17; fail)
        obtain ⟨W1, hW1⟩ : ∃ W1, W1 = wr.alloc (.cells #[.string y, .int .i64 ty] 83) := ⟨_, rfl⟩
        obtain ⟨hfr, hq1, hb1⟩ := HWd.out W1 hW1
        obtain ⟨qq, hqq⟩ : ∃ qq, qq = wr.heap.size := ⟨_, rfl⟩
        rw [← hqq] at hq1
        have HFa : Hid (FrB B b w W1) := HI.out.2.trans hfr
        have HDa : Hid (Bd B b (s ++ paT (xs.take 0) ++ []) W1) := (by simpa using HI.out.1.below hb1 : Bd B b _ W1)
        have HQa : Hid (W1.heap[qq]? = some (.cells #[.string y, .int .i64 ty] 83)) := hq1
        have HSep : Hid ((if xs.take 0 = [] then [] else [44, 32] : By) = []) := by show _ = _; simp
        rw [← hW1, ← hqq]
        clear hW1 hqq hfr hq1 hb1
        generalize hx1 : y ++ (⟨#[58, 32]⟩ : ByteArray) = x1
        have ht1 : x1.data.toList = x.1 ++ [58, 32] := by rw [← hx1, app_toList, HY.out.1]
        have hz1 : x1.size = x.1.length + 2 := by rw [← hx1, app_size, HY.out.2]; rfl
        refine (ws x1 HDa.out (HE.out.go HFa.out).le (by rw [hz1]; have := HL.out; have := HLn.out; rw [HSep.out] at this; simp at this ⊢; omega)).mono ?_
        rintro e w3 ⟨rfl, hd, hf⟩
        rw [ht1] at hd
        have HF3 : Hid (FrB B b w w3) := HFa.out.trans hf
        have HD3 : Hid (Bd B b (s ++ paT (xs.take 0) ++ [] ++ (x.1 ++ [58, 32])) w3) := hd
        have hQ3 := (hf.keeps (fun _ => True) HDa.out) _ _ 83 trivial (by decide) HQa.out
        have z1 := cell_at (i := 1) hQ3 rfl
        clear hd hf hQ3 hx1 ht1 hz1
        by_cases h2 : ty = 2
        · have bt : (ty == 2) = true := by simpa using h2
          have HO : Hid (paO x = (x.1 ++ [58, 32]) ++ [97, 114, 114]) := by show _ = _; unfold paO; rw [if_pos (by rw [← HTy.out]; exact h2)]
          go_wp2_with (go_at_call 17; fail)
          refine (ws ⟨#[97, 114, 114]⟩ HD3.out (HE.out.go HF3.out).le (by show _ + 3 ≤ _; have := HL.out; have := HLn.out; rw [HSep.out] at this; simp at this ⊢; omega)).mono ?_
          rintro e w4 ⟨rfl, hd, hf⟩
          have HEnd : Hid (Bd B b (s ++ paT (xs.take (0 + 1))) w4 ∧ FrB B b w w4) := by
            refine ⟨?_, HF3.out.trans hf⟩
            rw [HJ.out, HSep.out, HO.out]
            simpa using hd
          clear hd hf
          go_wp2
          exact ⟨⟨0 + 1, by omega, by go_num, HEnd.out⟩, by simp [intOf]; omega⟩
        · have bt : (ty == 2) = false := by simpa using h2
          have HO : Hid (paO x = (x.1 ++ [58, 32]) ++ [105, 110, 116]) := by show _ = _; unfold paO; rw [if_neg (by rw [← HTy.out]; exact h2)]
          go_wp2_with (go_at_call 17; fail)
          refine (ws ⟨#[105, 110, 116]⟩ HD3.out (HE.out.go HF3.out).le (by show _ + 3 ≤ _; have := HL.out; have := HLn.out; rw [HSep.out] at this; simp at this ⊢; omega)).mono ?_
          rintro e w4 ⟨rfl, hd, hf⟩
          have HEnd : Hid (Bd B b (s ++ paT (xs.take (0 + 1))) w4 ∧ FrB B b w w4) := by
            refine ⟨?_, HF3.out.trans hf⟩
            rw [HJ.out, HSep.out, HO.out]
            simpa using hd
          clear hd hf
          go_wp2
          exact ⟨⟨0 + 1, by omega, by go_num, HEnd.out⟩, by simp [intOf]; omega⟩
      · have hpos : 0 < i := by omega
        have HSep : Hid ((if xs.take i = [] then [] else [44, 32] : By) = [44, 32]) := by
          show _ = _
          rw [if_neg]
          intro e
          have := congrArg List.length e
          rw [List.length_take, ← HN.out] at this
          simp at this
          omega
        go_wp2_with (go_at_call 17; fail)
        obtain ⟨W1, hW1⟩ : ∃ W1, W1 = wr.alloc (.cells #[.string y, .int .i64 ty] 83) := ⟨_, rfl⟩
        obtain ⟨hfr, hq1, hb1⟩ := HWd.out W1 hW1
        obtain ⟨qq, hqq⟩ : ∃ qq, qq = wr.heap.size := ⟨_, rfl⟩
        rw [← hqq] at hq1
        have HFb : Hid (FrB B b w W1) := HI.out.2.trans hfr
        have HDb : Hid (Bd B b (s ++ paT (xs.take i)) W1) := HI.out.1.below hb1
        have HQb : Hid (W1.heap[qq]? = some (.cells #[.string y, .int .i64 ty] 83)) := hq1
        rw [← hW1, ← hqq]
        clear hW1 hqq hfr hq1 hb1
        refine (ws ⟨#[44, 32]⟩ HDb.out (HE.out.go HFb.out).le (by show _ + 2 ≤ _; have := HL.out; have := HLn.out; rw [HSep.out] at this; simp at this ⊢; omega)).mono ?_
        rintro e w2 ⟨rfl, hd, hf⟩
        have HFa : Hid (FrB B b w w2) := HFb.out.trans hf
        have HDa : Hid (Bd B b (s ++ paT (xs.take i) ++ [44, 32]) w2) := hd
        have hQ2 := (hf.keeps (fun _ => True) HDb.out) _ _ 83 trivial (by decide) HQb.out
        have HQa : Hid (w2.heap[qq]? = some (.cells #[.string y, .int .i64 ty] 83)) := hQ2
        have z0 := cell_at (i := 0) hQ2 rfl
        clear hd hf hQ2
        go_wp2_with (go_at_call 17; fail)
        generalize hx1 : y ++ (⟨#[58, 32]⟩ : ByteArray) = x1
        have ht1 : x1.data.toList = x.1 ++ [58, 32] := by rw [← hx1, app_toList, HY.out.1]
        have hz1 : x1.size = x.1.length + 2 := by rw [← hx1, app_size, HY.out.2]; rfl
        refine (ws x1 HDa.out (HE.out.go HFa.out).le (by rw [hz1]; have := HL.out; have := HLn.out; rw [HSep.out] at this; simp at this ⊢; omega)).mono ?_
        rintro e w3 ⟨rfl, hd, hf⟩
        rw [ht1] at hd
        have HF3 : Hid (FrB B b w w3) := HFa.out.trans hf
        have HD3 : Hid (Bd B b (s ++ paT (xs.take i) ++ [44, 32] ++ (x.1 ++ [58, 32])) w3) := hd
        have hQ3 := (hf.keeps (fun _ => True) HDa.out) _ _ 83 trivial (by decide) HQa.out
        have z1 := cell_at (i := 1) hQ3 rfl
        clear hd hf hQ3 hx1 ht1 hz1
        by_cases h2 : ty = 2
        · have bt : (ty == 2) = true := by simpa using h2
          have HO : Hid (paO x = (x.1 ++ [58, 32]) ++ [97, 114, 114]) := by show _ = _; unfold paO; rw [if_pos (by rw [← HTy.out]; exact h2)]
          go_wp2_with (go_at_call 17; fail)
          refine (ws ⟨#[97, 114, 114]⟩ HD3.out (HE.out.go HF3.out).le (by show _ + 3 ≤ _; have := HL.out; have := HLn.out; rw [HSep.out] at this; simp at this ⊢; omega)).mono ?_
          rintro e w4 ⟨rfl, hd, hf⟩
          have HEnd : Hid (Bd B b (s ++ paT (xs.take (i + 1))) w4 ∧ FrB B b w w4) := by
            refine ⟨?_, HF3.out.trans hf⟩
            rw [HJ.out, HSep.out, HO.out]
            simpa using hd
          clear hd hf
          go_wp2
          exact ⟨⟨i + 1, by omega, by go_num, HEnd.out⟩, by simp [intOf]; omega⟩
        · have bt : (ty == 2) = false := by simpa using h2
          have HO : Hid (paO x = (x.1 ++ [58, 32]) ++ [105, 110, 116]) := by show _ = _; unfold paO; rw [if_neg (by rw [← HTy.out]; exact h2)]
          go_wp2_with (go_at_call 17; fail)
          refine (ws ⟨#[105, 110, 116]⟩ HD3.out (HE.out.go HF3.out).le (by show _ + 3 ≤ _; have := HL.out; have := HLn.out; rw [HSep.out] at this; simp at this ⊢; omega)).mono ?_
          rintro e w4 ⟨rfl, hd, hf⟩
          have HEnd : Hid (Bd B b (s ++ paT (xs.take (i + 1))) w4 ∧ FrB B b w w4) := by
            refine ⟨?_, HF3.out.trans hf⟩
            rw [HJ.out, HSep.out, HO.out]
            simpa using hd
          clear hd hf
          go_wp2
          exact ⟨⟨i + 1, by omega, by go_num, HEnd.out⟩, by simp [intOf]; omega⟩
    · obtain rfl : i = n := by omega
      have HAll : Hid (Bd B b (s ++ paT xs) wr ∧ FrB B b w wr) := by
        have h := HI.out
        rw [List.take_of_length_le (by rw [HN.out]; exact Nat.le_refl _)] at h
        exact h
      go_wp2
      go_end0
      exact HPo.out wr HAll.out.1 HAll.out.2
end Go.Proofs.YtpakgaegckkmnaaGreatDoor

namespace Go.Proofs.YtpakgaegckkmnaaGreatDoor
set_option linter.unusedVariables false
set_option linter.unusedSimpArgs false
open Go Go.RowKit

/-- Functions as plain data: name, place, parameters, body. -/
structure Fun where
  nm : By
  kd : IntKind
  at' : Int
  ps : List (By × Int)
  body : Tr
def Fun.tr (f : Fun) : Tr := .agg [.lit (.string f.nm), .lit (.int f.kd f.at'), psT f.ps, f.body]
/-- A function, functions, written. -/
def fuT (f : Fun) : By := ([102, 110, 32] ++ f.nm ++ [40]) ++ paT f.ps ++ [41] ++ blT [] f.body ++ [10]
def prT (l : List Fun) : By := l.flatMap fuT
theorem prT_snoc (l : List Fun) (f : Fun) : prT (l ++ [f]) = prT l ++ fuT f := by simp [prT]
theorem prT_len (l : List Fun) (i : Nat) : (prT (l.take i)).length ≤ (prT l).length := by
  have h : prT l = prT (l.take i) ++ prT (l.drop i) := by unfold prT; rw [← List.flatMap_append, List.take_append_drop]
  rw [h]
  simp
/-- Functions in memory, one by one. -/
theorem fns_open {S : Nat → Prop} {w : World} : ∀ (t : Tr) (cs : List Value), FnAt S w t cs → ∃ l : List Fun, t = chain (l.map Fun.tr) ∧ cs.length = l.length * 4 ∧ ∀ (i : Nat) (f : Fun), l[i]? = some f → ∃ (vp vb : Value) (nb : Nat) (bcs : List Value), RowS S w 83 2 vp f.ps.length (psC f.ps) ∧ RowS S w 86 7 vb nb bcs ∧ StAt S w f.body bcs ∧ cs[i * 4]? = some (str f.nm) ∧ cs[i * 4 + 1]? = some (.int .i64 f.at') ∧ cs[i * 4 + 2]? = some vp ∧ cs[i * 4 + 3]? = some vb
  | t, cs, h => by
    unfold FnAt at h
    split at h
    · rename_i nm k1 a ps b g
      obtain ⟨vp, vb, nb, xs, bcs, rest, e, a1, a2, a3, a4, a5⟩ := h
      obtain ⟨l, e1, e2, e3⟩ := fns_open g rest a5
      subst a1
      subst e
      refine ⟨⟨nm, k1, a, xs, b⟩ :: l, by rw [e1]; rfl, by simp [e2]; omega, fun i f hf => ?_⟩
      cases i with
      | zero =>
        simp at hf
        subst hf
        exact ⟨vp, vb, nb, bcs, a2, a3, a4, rfl, rfl, rfl, rfl⟩
      | succ i =>
        obtain ⟨vp', vb', nb', bcs', b1, b2, b3, b4, b5, b6, b7⟩ := e3 i f (by simpa using hf)
        refine ⟨vp', vb', nb', bcs', b1, b2, b3, ?_, ?_, ?_, ?_⟩
        · rw [show (i + 1) * 4 = i * 4 + 4 by omega]; exact b4
        · rw [show (i + 1) * 4 + 1 = i * 4 + 1 + 4 by omega]; exact b5
        · rw [show (i + 1) * 4 + 2 = i * 4 + 2 + 4 by omega]; exact b6
        · rw [show (i + 1) * 4 + 3 = i * 4 + 3 + 4 by omega]; exact b7
    · exact ⟨[], rfl, by simp [h], fun i f hf => by simp at hf⟩
    · exact h.elim

theorem bd_new {w : World} (W : World) (hW : W = w.alloc (.cells #[.pointer none, .slice none 0 0] 54)) : Bd w.heap.size w.heap.size [] W := by
  refine .inl ⟨Nat.le_refl _, .slice none 0 0, by rw [hW]; exact heap_alloc_last w _, World.ownsRowF_nil _ _ _ _, by simp [Value.ownBlock]⟩

set_option maxRecDepth 100000 in
set_option maxHeartbeats 4000000 in
theorem print_walk (S : Nat → Prop) (w : World) (v : Value) (n : Nat) (cs : List Value) (l : List Fun) (he : EnvW 11 w) (hr : RowS S w 41 4 v n cs) (hn : n = l.length) (hn6 : n ≤ 1000000)
    (ho : ∀ (i : Nat) (f : Fun), l[i]? = some f → ∃ (vp vb : Value) (nb : Nat) (bcs : List Value), RowS S w 83 2 vp f.ps.length (psC f.ps) ∧ RowS S w 86 7 vb nb bcs ∧ StAt S w f.body bcs ∧ cs[i * 4]? = some (str f.nm) ∧ cs[i * 4 + 1]? = some (.int .i64 f.at') ∧ cs[i * 4 + 2]? = some vp ∧ cs[i * 4 + 3]? = some vb)
    (hp : ∀ f ∈ l, PbC f.body ∧ f.ps.length ≤ 1000000) (hl : (prT l).length ≤ 100000000000) :
    Calls Tryz.prog 9 #[v] w fun e w' => e = .returned (.string ⟨(prT l).toArray⟩) ∧ Below w.heap.size w w' := by
  obtain ⟨q, c, rfl⟩ := own_slice hr.1
  have HR : Hid (RowS S w 41 4 (.slice q n c) n cs) := hr
  have HO : Hid (∀ (i : Nat) (f : Fun), l[i]? = some f → ∃ (vp vb : Value) (nb : Nat) (bcs : List Value), RowS S w 83 2 vp f.ps.length (psC f.ps) ∧ RowS S w 86 7 vb nb bcs ∧ StAt S w f.body bcs ∧ cs[i * 4]? = some (str f.nm) ∧ cs[i * 4 + 1]? = some (.int .i64 f.at') ∧ cs[i * 4 + 2]? = some vp ∧ cs[i * 4 + 3]? = some vb) := ho
  have HP : Hid (∀ f ∈ l, PbC f.body ∧ f.ps.length ≤ 1000000) := hp
  have HL : Hid ((prT l).length ≤ 100000000000) := hl
  have HN : Hid (n = l.length) := hn
  obtain ⟨W0, hW0⟩ : ∃ W0, W0 = w.alloc (.cells #[.pointer none, .slice none 0 0] 54) := ⟨_, rfl⟩
  obtain ⟨b, hbb⟩ : ∃ b, b = w.heap.size := ⟨_, rfl⟩
  have hb0 : Below w.heap.size w W0 := by rw [hW0]; exact (Below.refl _ _).alloc (Nat.le_refl _) _
  have HB0 : Hid (Below w.heap.size w W0) := hb0
  have HD0 : Hid (Bd b b [] W0) := by rw [hbb]; exact bd_new W0 hW0
  have hf0 : FrB 11 b w W0 := FrB.of hb0 he.le
  have HE : Hid (EnvW b W0) := by
    have h1 := he.go hf0
    exact ⟨h1.env, h1.pow, by rw [hbb]; exact he.le, by rw [hbb]; exact hb0.size⟩
  have HK0 : Hid (Keeps S w W0) := fun k cs t _ _ hk => by rw [hb0.block k (Array.getElem?_eq_some_iff.1 hk).1]; exact hk
  have HK1 : Hid (Keeps (fun _ => True) w W0) := fun k cs t _ _ hk => by rw [hb0.block k (Array.getElem?_eq_some_iff.1 hk).1]; exact hk
  have HBW : Hid (b = w.heap.size) := hbb
  obtain ⟨out, hout⟩ : ∃ out : ByteArray, out = ⟨(prT l).toArray⟩ := ⟨_, rfl⟩
  have HOUT : Hid (out = ⟨(prT l).toArray⟩) := hout
  rw [← hout]
  clear hr ho hp hl hn he hb0 hf0 hout
  go_enter Tryz.func9, Tryz.ntmps9
  go_wp2_with fail
  rw [← hW0, ← hbb]
  have hi0 : Hid (Bd b b (prT (l.take 0)) W0 ∧ FrB b b W0 W0) := ⟨by simpa [prT] using HD0.out, FrB.refl _ _ _⟩
  clear hW0 hbb
  go_loopw [8] (fun v wr => ∃ i : Nat, i ≤ n ∧ v = .int .i64 i ∧ Hid (Bd b b (prT (l.take i)) wr ∧ FrB b b W0 wr)) (fun v _ => n - (intOf v).toNat)
  case atStart => exact ⟨0, Nat.zero_le _, rfl, hi0.out⟩
  case round =>
    clear hi0
    obtain ⟨i, hin, rfl, HI⟩ := hrel
    by_cases hlt : i < n
    · obtain ⟨g, cap, e, -, -⟩ := HR.out.1.form (by omega)
      injection e with e1 e2 e3
      subst e1
      clear e2 e3
      obtain ⟨f, hf⟩ : ∃ f, l[i]? = some f := ⟨l[i]'(by have := HN.out; omega), List.getElem?_eq_getElem (by have := HN.out; omega)⟩
      obtain ⟨vp, vb, nb, bcs, hrp, hrb, hsb, k0, k1, k2, k3⟩ := HO.out i f hf
      obtain ⟨hpb, hps⟩ := HP.out f (List.mem_of_getElem? hf)
      obtain ⟨s2, c2, rfl⟩ := own_slice hrp.1
      obtain ⟨s3, c3, rfl⟩ := own_slice hrb.1
      obtain ⟨y, hy, hyt⟩ := str_y f.nm
      have HY : Hid (y.data.toList = f.nm ∧ y.size = f.nm.length) := ⟨hyt, by rw [← hyt]; simp⟩
      rw [hy] at k0
      have HKr : Hid (Keeps (fun _ => True) w wr) := HK1.out.trans (HI.out.2.keeps (fun _ => True) HD0.out)
      have hrow := HKr.out.row (by decide) HR.out.1 (fun _ _ => trivial)
      have hc : ∀ j u, cs[j]? = some u → wr.cell? ⟨g, j, none⟩ = some u := fun j u hu => by
        have := hrow.cells (g := g) rfl j u hu
        rw [add_plain'] at this
        exact this
      have q0 := hc _ _ k0
      have q1 := hc _ _ k1
      have q2 := hc _ _ k2
      have q3 := hc _ _ k3
      have HXP : Hid (∀ W, FrB b b W0 W → RowS S W 83 2 (.slice s2 f.ps.length c2) f.ps.length (psC f.ps)) := fun W h => hrp.kept (HK0.out.trans (h.keeps S HD0.out)) (by decide)
      have HXB : Hid (∀ W, FrB b b W0 W → RowS S W 86 7 (.slice s3 nb c3) nb bcs ∧ StAt S W f.body bcs) := fun W h => ⟨hrb.kept (HK0.out.trans (h.keeps S HD0.out)) (by decide), StAt.kept (HK0.out.trans (h.keeps S HD0.out)) _ _ hsb⟩
      have htk : l.take (i + 1) = l.take i ++ [f] := by rw [List.take_add_one, hf]; rfl
      have hj := prT_snoc (l.take i) f
      rw [← htk] at hj
      have HJ : Hid (prT (l.take (i + 1)) = prT (l.take i) ++ fuT f) := hj
      have hln := prT_len l (i + 1)
      rw [hj] at hln
      have HLn : Hid ((prT (l.take i)).length + (3 + f.nm.length + 1) + (paT f.ps).length + 1 + (blT [] f.body).length + 1 ≤ 100000000000) := by
        show _ ≤ _
        have := HL.out
        unfold fuT at hln
        simp only [List.length_append, List.length_cons, List.length_nil] at hln
        omega
      have HPB : Hid (PbC f.body) := hpb
      have HPS : Hid (f.ps.length ≤ 1000000) := hps
      have hyb : y.size ≤ 100000000000 := by rw [HY.out.2]; have := HLn.out; omega
      obtain ⟨fa, hfa⟩ : ∃ fa, fa = f.at' := ⟨_, rfl⟩
      obtain ⟨m2, hm2⟩ : ∃ m2, m2 = f.ps.length := ⟨_, rfl⟩
      obtain ⟨m3, hm3⟩ : ∃ m3, m3 = nb := ⟨_, rfl⟩
      rw [← hfa] at q1
      rw [← hm2] at q2 HXP
      rw [← hm3] at q3 HXB
      have HM2 : Hid (m2 = f.ps.length) := hm2
      have HWd : Hid (∀ W1, W1 = wr.alloc (.cells #[.string y, .int .i64 fa, .slice s2 m2 c2, .slice s3 m3 c3] 41) → FrB b b wr W1 ∧ W1.heap[wr.heap.size]? = some (.cells #[.string y, .int .i64 fa, .slice s2 m2 c2, .slice s3 m3 c3] 41) ∧ Below wr.heap.size wr W1) := fun W1 e => by
        have hb1 : Below wr.heap.size wr W1 := by rw [e]; exact (Below.refl _ _).alloc (Nat.le_refl _) _
        exact ⟨FrB.of hb1 (HE.out.go HI.out.2).le, by rw [e]; exact heap_alloc_last wr _, hb1⟩
      clear hrow hc k0 k1 k2 k3 hrp hrb hsb hpb hps hf htk hj hln hy hyt hfa hm2 hm3
      go_wp2_with (go_at_call 17; fail)
      obtain ⟨W1, hW1⟩ : ∃ W1, W1 = wr.alloc (.cells #[.string y, .int .i64 fa, .slice s2 m2 c2, .slice s3 m3 c3] 41) := ⟨_, rfl⟩
      obtain ⟨hfr, hq1, hb1⟩ := HWd.out W1 hW1
      obtain ⟨qq, hqq⟩ : ∃ qq, qq = wr.heap.size := ⟨_, rfl⟩
      rw [← hqq] at hq1
      have HF1 : Hid (FrB b b W0 W1) := HI.out.2.trans hfr
      have HD1 : Hid (Bd b b (prT (l.take i)) W1) := HI.out.1.below hb1
      have HQ1 : Hid (W1.heap[qq]? = some (.cells #[.string y, .int .i64 fa, .slice s2 m2 c2, .slice s3 m3 c3] 41)) := hq1
      rw [← hW1, ← hqq]
      clear hW1 hqq hfr hq1 hb1 q0 q1 q2 q3
      generalize hx1 : (⟨#[102, 110, 32]⟩ : ByteArray) ++ y ++ (⟨#[40]⟩ : ByteArray) = x1
      have ht1 : x1.data.toList = [102, 110, 32] ++ f.nm ++ [40] := by rw [← hx1, app_toList, app_toList, HY.out.1]
      have hz1 : x1.size = 3 + f.nm.length + 1 := by rw [← hx1, app_size, app_size, HY.out.2]; rfl
      refine (ws x1 HD1.out (HE.out.go HF1.out).le (by rw [hz1]; have := HLn.out; omega)).mono ?_
      rintro e w2 ⟨rfl, hd, hfx⟩
      rw [ht1] at hd
      have HD2 : Hid (Bd b b (prT (l.take i) ++ ([102, 110, 32] ++ f.nm ++ [40])) w2) := hd
      have HF2 : Hid (FrB b b W0 w2) := HF1.out.trans hfx
      have hQ2 := (hfx.keeps (fun _ => True) HD1.out) _ _ 41 trivial (by decide) HQ1.out
      have HQ2 : Hid (w2.heap[qq]? = some (.cells #[.string y, .int .i64 fa, .slice s2 m2 c2, .slice s3 m3 c3] 41)) := hQ2
      have z2 := cell_at (i := 2) hQ2 rfl
      clear hd hfx hQ2 hx1 ht1 hz1
      go_wp2_with (go_at_call 18; fail)
      refine (pp_walk (xs := f.ps) S b b _ w2 _ (HE.out.go HF2.out) HD2.out (by rw [← HM2.out]; exact HXP.out w2 HF2.out) HPS.out (by have := HLn.out; simp at this ⊢; omega)).mono ?_
      rintro e w3 ⟨rfl, hd, hfx⟩
      have HD3 : Hid (Bd b b (prT (l.take i) ++ ([102, 110, 32] ++ f.nm ++ [40]) ++ paT f.ps) w3) := hd
      have HF3 : Hid (FrB b b W0 w3) := HF2.out.trans hfx
      have HQ3 : Hid (w3.heap[qq]? = some (.cells #[.string y, .int .i64 fa, .slice s2 m2 c2, .slice s3 m3 c3] 41)) := (hfx.keeps (fun _ => True) HD2.out) _ _ 41 trivial (by decide) HQ2.out
      clear hd hfx z2
      go_wp2_with (go_at_call 17; fail)
      refine (ws ⟨#[41]⟩ HD3.out (HE.out.go HF3.out).le (by show _ + 1 ≤ _; have := HLn.out; simp at this ⊢; omega)).mono ?_
      rintro e w4 ⟨rfl, hd, hfx⟩
      have HD4 : Hid (Bd b b (prT (l.take i) ++ ([102, 110, 32] ++ f.nm ++ [40]) ++ paT f.ps ++ [41]) w4) := hd
      have HF4 : Hid (FrB b b W0 w4) := HF3.out.trans hfx
      have hQ4 := (hfx.keeps (fun _ => True) HD3.out) _ _ 41 trivial (by decide) HQ3.out
      have z3 := cell_at (i := 3) hQ4 rfl
      clear hd hfx hQ4
      go_wp2_with (go_at_call 19; fail)
      refine (HPB.out S b b _ w4 ⟨#[]⟩ _ _ _ (HE.out.go HF4.out) HD4.out (HXB.out w4 HF4.out).1 (HXB.out w4 HF4.out).2 (by have := HLn.out; show _ + (blT [] f.body).length ≤ _; simp at this ⊢; omega)).mono ?_
      rintro e w5 ⟨rfl, hd, hfx⟩
      have HD5 : Hid (Bd b b (prT (l.take i) ++ ([102, 110, 32] ++ f.nm ++ [40]) ++ paT f.ps ++ [41] ++ blT [] f.body) w5) := hd
      have HF5 : Hid (FrB b b W0 w5) := HF4.out.trans hfx
      clear hd hfx z3
      go_wp2_with (go_at_call 17; fail)
      refine (ws ⟨#[10]⟩ HD5.out (HE.out.go HF5.out).le (by show _ + 1 ≤ _; have := HLn.out; simp at this ⊢; omega)).mono ?_
      rintro e w6 ⟨rfl, hd, hfx⟩
      have HEnd : Hid (Bd b b (prT (l.take (i + 1))) w6 ∧ FrB b b W0 w6) := by
        refine ⟨?_, HF5.out.trans hfx⟩
        rw [HJ.out]
        unfold fuT
        simpa using hd
      clear hd hfx
      go_wp2
      exact ⟨⟨i + 1, by omega, by go_num, HEnd.out⟩, by simp [intOf]; omega⟩
    · obtain rfl : i = n := by omega
      have HAll : Hid (Bd b b (prT l) wr ∧ FrB b b W0 wr) := by
        have h := HI.out
        rw [List.take_of_length_le (by rw [HN.out]; exact Nat.le_refl _)] at h
        exact h
      have HOut : Hid (Calls Tryz.prog 20 #[.pointer (some ⟨b, 0, none⟩)] wr fun e w' => e = .returned (.string out) ∧ Below b wr w') := by
        rw [HOUT.out]
        exact (Tryz.Builder_String_any_f b b (prT l) wr HAll.out.1 (HE.out.go HAll.out.2).le).mono fun e w' ⟨a, _, c⟩ => ⟨a, c⟩
      go_wp2_with (go_at_call 20; fail)
      refine HOut.out.mono ?_
      rintro e w2 ⟨rfl, hb2⟩
      have HBel : Hid (Below w.heap.size w w2) := by
        have h1 : Below b wr w2 := hb2
        have h2 : Below b W0 wr := HAll.out.2.low
        have h3 := h2.trans h1
        rw [HBW.out] at h3
        exact HB0.out.trans h3
      clear hb2
      go_wp2
      go_ret
      exact ⟨rfl, HBel.out⟩
end Go.Proofs.YtpakgaegckkmnaaGreatDoor

namespace Go.Proofs.YtpakgaegckkmnaaGreatDoor
set_option linter.unusedVariables false
set_option linter.unusedSimpArgs false
open Go Go.RowKit

/-- Statements as they are read. -/
def GoodS : Tr → Prop
  | .slice [.agg [.lit (.int .i64 c), .lit (.int .i64 _), .lit (.string _), ix, v, th, el]] [g] =>
    1 ≤ c ∧ c ≤ 8 ∧ (ix = .nil ∨ IsNd ix) ∧ GoodE ix ∧ (v = .nil ∨ IsNd v) ∧ GoodE v ∧ GoodS th ∧ chl th ≤ 1000000 ∧ GoodS el ∧ chl el ≤ 1000000 ∧ GoodS g
  | .slice [] [] => True
  | _ => False
theorem goodS_st {c a : Int} {nm : By} {ix v th el g : Tr} (c1 : 1 ≤ c) (c8 : c ≤ 8) (ti : ix = .nil ∨ IsNd ix) (gi : GoodE ix) (tv : v = .nil ∨ IsNd v) (gv : GoodE v) (gt : GoodS th) (lt : chl th ≤ 1000000) (ge : GoodS el) (le : chl el ≤ 1000000) (gg : GoodS g) : GoodS (cc (st c a nm ix v th el) g) := by
  rw [GoodS]
  exact ⟨c1, c8, ti, gi, tv, gv, gt, lt, ge, le, gg⟩
theorem goodS_ce : GoodS ce := by rw [GoodS]; trivial
/-- One ahead of others. -/
theorem goodS_open {t g : Tr} (h : GoodS (cc t g)) : ∃ (c a : Int) (nm : By) (ix v th el : Tr), t = st c a nm ix v th el ∧ 1 ≤ c ∧ c ≤ 8 ∧ (ix = .nil ∨ IsNd ix) ∧ GoodE ix ∧ (v = .nil ∨ IsNd v) ∧ GoodE v ∧ GoodS th ∧ chl th ≤ 1000000 ∧ GoodS el ∧ chl el ≤ 1000000 ∧ GoodS g := by
  unfold GoodS at h
  split at h
  · rename_i c a nm ix v th el g' heq
    injection heq with h1 h2
    injection h1 with h1 _
    injection h2 with h2 _
    subst h1
    subst h2
    exact ⟨c, a, nm, ix, v, th, el, rfl, h⟩
  · rename_i heq
    injection heq with h1 _
    cases h1
  · exact h.elim
theorem goodS_cons {t g : Tr} (h : GoodS (cc t ce)) (hg : GoodS g) : GoodS (cc t g) := by
  obtain ⟨c, a, nm, ix, v, th, el, rfl, c1, c8, ti, gi, tv, gv, gt, lt, ge, le, _⟩ := goodS_open h
  exact goodS_st c1 c8 ti gi tv gv gt lt ge le hg
theorem stT_good {t g : Tr} (left : By) (h : GoodS (cc t ce)) : stT left (cc t g) = (left ++ [32, 32]) ++ smT (left ++ [32, 32]) t ++ [10] ++ stT left g := by
  obtain ⟨c, a, nm, ix, v, th, el, rfl, _⟩ := goodS_open h
  exact stT_cons left c a nm ix v th el g
theorem stT_ce (left : By) : stT left ce = [] := by unfold stT; rfl
/-- Statements that are read are written as the model says. -/
theorem sts_all (g : Tr) (h : GoodS g) : ∃ xs, g = chain xs ∧ (∀ x ∈ xs, PsC x) ∧ ∀ left, stT left g = preS left xs := by
  unfold GoodS at h
  split at h
  · rename_i c a nm ix v th el g'
    obtain ⟨c1, c8, ti, gi, tv, gv, gt, lt, ge, le, gg⟩ := h
    obtain ⟨xt, ht, pt, st'⟩ := sts_all th gt
    obtain ⟨xe, hee, pe, se⟩ := sts_all el ge
    obtain ⟨xs, hg, pg, sg⟩ := sts_all g' gg
    have IT : PbC th := by
      rw [ht] at st' lt ⊢
      exact pb_walk pt st' (by rw [chl_chain] at lt; exact lt)
    have IE : PbC el := by
      rw [hee] at se le ⊢
      exact pb_walk pe se (by rw [chl_chain] at le; exact le)
    refine ⟨st c a nm ix v th el :: xs, by rw [hg]; rfl, fun x hx => ?_, fun left => ?_⟩
    · rcases List.mem_cons.1 hx with rfl | hx
      · exact ps_all c1 c8 ((wr_all ix gi).1 ti) ((wr_all v gv).1 tv) IT IE hee
      · exact pg x hx
    · rw [stT_cons, sg]
      rfl
  · exact ⟨[], rfl, fun x hx => by simp at hx, fun left => by rw [show (DataW.slice [] [] : Tr) = ce from rfl, stT_ce]; rfl⟩
  · exact h.elim
theorem pb_all {g : Tr} (h : GoodS g) (hl : chl g ≤ 1000000) : PbC g := by
  obtain ⟨xs, hg, p, s⟩ := sts_all g h
  rw [hg] at s hl ⊢
  exact pb_walk p s (by rw [chl_chain] at hl; exact hl)

/-- What a reader of statements has read. -/
def StG (g d : Nat) (l : List Tok) (t : Tr) (l' : List Tok) : Prop :=
  if g = 2 then GoodS (cc t ce) ∧ ∀ lf : By, lf.length = 2 * d → (smT lf t).length + lf.length + 1 + 100 * l'.length ≤ 100 * l.length
  else GoodS t ∧ chl t + l'.length ≤ l.length ∧ ∀ left : By, left.length = 2 * d → (if g = 0 then (blT left t).length else (stT left t).length) + 100 * l'.length ≤ 100 * l.length
theorem expr_good {l l' : List Tok} {t : Tr} (he : Ends l) (h6 : l.length ≤ 1000000) (h : exprV l = .ok (t, l')) : GoodE t ∧ IsNd t ∧ (wrT t).length + 2 + 30 * l'.length ≤ 30 * l.length := by
  obtain ⟨a, b⟩ := exG_of (by omega) (by omega) (ex_good _ 0 1 0 .nil 0 l t l' (fun _ => by omega) (fun h => by omega) he h6 h)
  exact ⟨a, ex_node _ 0 1 0 .nil 0 l t l' (by omega) (by omega) h, b⟩
theorem held_good {l l' : List Tok} {t : Tr} (he : Ends l) (h6 : l.length ≤ 1000000) (h : heldV l = .ok (t, l')) : GoodE t ∧ IsNd t ∧ (wrT t).length + 2 + 30 * l'.length ≤ 30 * l.length := by
  obtain ⟨a, b⟩ := exG_of (by omega) (by omega) (ex_good _ 5 0 0 .nil 0 l t l' (fun h => by omega) (fun h => by omega) he h6 h)
  exact ⟨a, ex_node _ 5 0 0 .nil 0 l t l' (by omega) (by omega) h, b⟩
theorem idx_good {l l' : List Tok} {t : Tr} (he : Ends l) (h6 : l.length ≤ 1000000) (h : idxV l = .ok (t, l')) : GoodE t ∧ IsNd t ∧ (wrT t).length + 2 + 30 * l'.length ≤ 30 * l.length := by
  obtain ⟨a, b⟩ := exG_of (by omega) (by omega) (ex_good _ 6 0 0 .nil 0 l t l' (fun h => by omega) (fun h => by omega) he h6 h)
  exact ⟨a, ex_node _ 6 0 0 .nil 0 l t l' (by omega) (by omega) h, b⟩
theorem args_good {l l' : List Tok} {t : Tr} (he : Ends l) (h6 : l.length ≤ 1000000) (h : argsV l = .ok (t, l')) : ∃ xs, t = chain xs ∧ GoodE t ∧ (joinT xs).length + 30 * l'.length ≤ 30 * l.length ∧ xs.length + l'.length ≤ l.length := by
  unfold argsV argV at h
  split at h
  · rename_i h1
    obtain ⟨e1, s1⟩ := tok_tail h1 (by decide) he
    obtain ⟨rfl, rfl⟩ := ok_eq h
    exact ⟨[], rfl, good_ce, by simp [joinT]; omega, by simp⟩
  · have q := ex_good _ 7 0 0 ce 0 l t l' (fun h => by omega) (fun h => by omega) he h6 h
    unfold ExG at q
    rw [if_pos rfl] at q
    obtain ⟨xs, a, b, c, d⟩ := q
    exact ⟨xs, a, b, by omega, d⟩
theorem sm_len_plain (lf : By) (c a : Int) (nm : By) (ix v th el : Tr) (h4 : c ≠ 4) (h5 : c ≠ 5) : (smT lf (st c a nm ix v th el)).length ≤ nm.length + (wrT ix).length + (wrT v).length + 13 := by
  have e : smT lf (st c a nm ix v th el) = (if c = 1 then [118, 97, 114, 32] ++ nm ++ [32, 61, 32] else if c = 2 then nm ++ [32, 61, 32] else if c = 3 then nm ++ ([91] ++ wrT ix ++ [93]) ++ [32, 61, 32] else if c = 6 then [114, 101, 116, 117, 114, 110, 32] else if c = 7 then [112, 114, 105, 110, 116, 32] else []) ++ wrT v ++ [59] := by
    simp [smT, h4, h5]
  rw [e]
  simp only [List.length_append, List.length_cons, List.length_nil]
  repeat' split
  all_goals simp
  all_goals omega
theorem named_good {a : Nat} {l l' : List Tok} {t : Tr} (he : Ends l) (h6 : l.length ≤ 1000000) (h : namedV a l = .ok (t, l')) : GoodS (cc t ce) ∧ ∀ lf : By, (smT lf t).length + 30 * l'.length ≤ 30 * l.length + 40 := by
  unfold namedV at h
  obtain ⟨nm, l1, h1, h⟩ := bnd_ok h
  obtain ⟨e1, s1⟩ := name_tail h1 he
  obtain ⟨_, _, hn12, _⟩ := name_ok h1
  split at h
  · rename_i h40
    obtain ⟨e2, s2⟩ := tok_tail h40 (by decide) e1
    obtain ⟨g, l2, h2, h⟩ := bnd_ok h
    obtain ⟨xs, hxs, gg, q1, q2⟩ := args_good e2 (by omega) h2
    obtain ⟨rfl, rfl⟩ := ok_eq h
    refine ⟨goodS_st (by omega) (by omega) (.inl rfl) good_nil (.inr (isNd _ _ _ _ _ _ _ _)) (good_nd (by omega) (by omega) (by omega) (by omega) (.inl rfl) (.inl rfl) good_nil good_nil gg hxs (by omega)) goodS_ce (by simp [chl]) goodS_ce (by simp [chl]) goodS_ce, fun lf => ?_⟩
    have := sm_len_plain lf 8 a [] .nil (nd 5 a 0 nm [] .nil .nil g) ce ce (by omega) (by omega)
    have hw : wrT (nd 5 a 0 nm [] .nil .nil g) = (nm ++ [40]) ++ wrT g ++ [41] := by rw [wrT]; simp
    have hc : wrT g = joinT xs := by rw [hxs, join_chain]
    have hn : wrT .nil = [] := by unfold wrT; rfl
    rw [hw, hc, hn] at this
    simp only [List.length_append, List.length_cons, List.length_nil] at this
    omega
  split at h
  · rename_i h91
    obtain ⟨e2, s2⟩ := tok_tail h91 (by decide) e1
    obtain ⟨i, l2, h2, h⟩ := bnd_ok h
    obtain ⟨gi, ni, qi⟩ := idx_good e2 (by omega) h2
    obtain ⟨e3, s3⟩ := idx_tail h2 e2
    obtain ⟨_, l3, h3, h⟩ := bnd_ok h
    obtain ⟨e4, s4⟩ := need_tail h3 (by decide) e3
    obtain ⟨v, l4, h4, h⟩ := bnd_ok h
    obtain ⟨gv, nv, qv⟩ := expr_good e4 (by omega) h4
    obtain ⟨rfl, rfl⟩ := ok_eq h
    refine ⟨goodS_st (by omega) (by omega) (.inr ni) gi (.inr nv) gv goodS_ce (by simp [chl]) goodS_ce (by simp [chl]) goodS_ce, fun lf => ?_⟩
    have := sm_len_plain lf 3 a nm i v ce ce (by omega) (by omega)
    omega
  · obtain ⟨_, l3, h3, h⟩ := bnd_ok h
    obtain ⟨e4, s4⟩ := need_tail h3 (by decide) e1
    obtain ⟨v, l4, h4, h⟩ := bnd_ok h
    obtain ⟨gv, nv, qv⟩ := expr_good e4 (by omega) h4
    obtain ⟨rfl, rfl⟩ := ok_eq h
    refine ⟨goodS_st (by omega) (by omega) (.inl rfl) good_nil (.inr nv) gv goodS_ce (by simp [chl]) goodS_ce (by simp [chl]) goodS_ce, fun lf => ?_⟩
    have := sm_len_plain lf 2 a nm .nil v ce ce (by omega) (by omega)
    have hn : wrT .nil = [] := by unfold wrT; rfl
    rw [hn] at this
    simp only [List.length_nil] at this
    omega
theorem chl_ce : chl ce = 0 := rfl
theorem Ends.kind3 {l : List Tok} (h : Ends l) (ht : (hd l).t ≠ []) : (hd l).k ≠ 3 := by
  obtain ⟨a, e, rfl, h1, h2, h3⟩ := h
  cases a with
  | nil => exact absurd h2 ht
  | cons x a => exact (h3 x (by simp)).1
theorem st_good : ∀ (f g d : Nat) (l : List Tok) (t : Tr) (l' : List Tok), (d ≤ 13 ∧ (g = 1 → d ≤ 12)) → Ends l → l.length ≤ 1000000 → stV f g d l = .ok (t, l') → (g ≤ 2) → StG g d l t l'
  | 0, _, _, _, _, _, _, _, _, h, _ => by simp [stV] at h
  | f + 1, 0, d, l, t, l', hd', he, h6, h, _ => by
    rw [stV] at h
    unfold StG
    rw [if_neg (by omega)]
    obtain ⟨_, _, hb, h⟩ := bnd_ok h
    obtain ⟨_, l1, h1, h⟩ := bnd_ok h
    obtain ⟨e1, s1⟩ := need_tail h1 (by decide) he
    have h123 := (need_ok h1).1
    have hk3 := he.kind3 (by rw [h123]; decide)
    have h12 : d ≤ 12 := by
      unfold boundV at hb
      split at hb
      · cases hb
      · omega
    have q := st_good f 1 d l1 t l' ⟨by omega, fun _ => h12⟩ e1 (by omega) h (by omega)
    unfold StG at q
    rw [if_neg (by omega)] at q
    refine ⟨q.1, by have := q.2.1; omega, fun left hleft => ?_⟩
    have := q.2.2 left hleft
    rw [if_neg (by omega)] at this
    rw [if_pos rfl]
    unfold blT
    simp only [List.length_append, List.length_cons, List.length_nil]
    omega
  | f + 1, 1, d, l, t, l', hd', he, h6, h, _ => by
    rw [stV] at h
    unfold StG
    rw [if_neg (by omega)]
    split at h
    · rename_i h1
      obtain ⟨e1, s1⟩ := tok_tail h1 (by decide) he
      obtain ⟨rfl, rfl⟩ := ok_eq h
      refine ⟨goodS_ce, by rw [chl_ce]; omega, fun left hleft => ?_⟩
      rw [if_neg (by omega), stT_ce]
      simp
      omega
    · obtain ⟨t1, l1, h1, h⟩ := bnd_ok h
      obtain ⟨e1, s1⟩ := st_ends f 2 (d + 1) l t1 l1 he h1
      have h12 := hd'.2 rfl
      have q1 := st_good f 2 (d + 1) l t1 l1 ⟨by omega, fun h => by omega⟩ he h6 h1 (by omega)
      unfold StG at q1
      rw [if_pos rfl] at q1
      obtain ⟨g, l2, h2, h⟩ := bnd_ok h
      have q2 := st_good f 1 d l1 g l2 ⟨by omega, fun _ => h12⟩ e1 (by omega) h2 (by omega)
      unfold StG at q2
      rw [if_neg (by omega)] at q2
      obtain ⟨rfl, rfl⟩ := ok_eq h
      refine ⟨goodS_cons q1.1 q2.1, by have := q2.2.1; simp only [chl]; omega, fun left hleft => ?_⟩
      have a1 := q1.2 (left ++ [32, 32]) (by simp; omega)
      have a2 := q2.2.2 left hleft
      rw [if_neg (by omega)] at a2
      rw [if_neg (by omega), stT_good left q1.1]
      simp only [List.length_append, List.length_cons, List.length_nil] at a1 ⊢
      omega
  | f + 1, 2, d, l, t, l', hd', he, h6, h, _ => by
    rw [stV] at h
    unfold StG
    rw [if_pos rfl]
    have h13 := hd'.1
    have hnil : wrT .nil = [] := by unfold wrT; rfl
    split at h
    · obtain ⟨t1, l1, h1, h⟩ := bnd_ok h
      obtain ⟨e1, s1⟩ := named_tail h1 he
      obtain ⟨q1, q2⟩ := named_good he h6 h1
      obtain ⟨_, l2, h2, h⟩ := bnd_ok h
      obtain ⟨e2, s2⟩ := need_tail h2 (by decide) e1
      obtain ⟨rfl, rfl⟩ := ok_eq h
      refine ⟨q1, fun lf hlf => ?_⟩
      have := q2 lf
      omega
    split at h
    · rename_i h0
      obtain ⟨e0, s0⟩ := tok_tail h0 (by decide) he
      obtain ⟨nm, l1, h1, h⟩ := bnd_ok h
      obtain ⟨e1, s1⟩ := name_tail h1 e0
      obtain ⟨_, _, hn12, _⟩ := name_ok h1
      obtain ⟨_, l2, h2, h⟩ := bnd_ok h
      obtain ⟨e2, s2⟩ := need_tail h2 (by decide) e1
      obtain ⟨v, l3, h3, h⟩ := bnd_ok h
      obtain ⟨gv, nv, qv⟩ := expr_good e2 (by omega) h3
      obtain ⟨e3, s3⟩ := expr_tail h3 e2
      obtain ⟨_, l4, h4, h⟩ := bnd_ok h
      obtain ⟨e4, s4⟩ := need_tail h4 (by decide) e3
      obtain ⟨rfl, rfl⟩ := ok_eq h
      refine ⟨goodS_st (by omega) (by omega) (.inl rfl) good_nil (.inr nv) gv goodS_ce (by simp [chl]) goodS_ce (by simp [chl]) goodS_ce, fun lf hlf => ?_⟩
      have := sm_len_plain lf 1 (hd l).p nm .nil v ce ce (by omega) (by omega)
      rw [hnil] at this
      simp only [List.length_nil] at this
      omega
    split at h
    · rename_i h0
      obtain ⟨e0, s0⟩ := tok_tail h0 (by decide) he
      obtain ⟨v, l3, h3, h⟩ := bnd_ok h
      obtain ⟨gv, nv, qv⟩ := expr_good e0 (by omega) h3
      obtain ⟨e3, s3⟩ := expr_tail h3 e0
      obtain ⟨_, l4, h4, h⟩ := bnd_ok h
      obtain ⟨e4, s4⟩ := need_tail h4 (by decide) e3
      obtain ⟨rfl, rfl⟩ := ok_eq h
      refine ⟨goodS_st (by omega) (by omega) (.inl rfl) good_nil (.inr nv) gv goodS_ce (by simp [chl]) goodS_ce (by simp [chl]) goodS_ce, fun lf hlf => ?_⟩
      have := sm_len_plain lf 6 (hd l).p [] .nil v ce ce (by omega) (by omega)
      rw [hnil] at this
      simp only [List.length_nil] at this
      omega
    split at h
    · rename_i h0
      obtain ⟨e0, s0⟩ := tok_tail h0 (by decide) he
      obtain ⟨v, l3, h3, h⟩ := bnd_ok h
      obtain ⟨gv, nv, qv⟩ := expr_good e0 (by omega) h3
      obtain ⟨e3, s3⟩ := expr_tail h3 e0
      obtain ⟨_, l4, h4, h⟩ := bnd_ok h
      obtain ⟨e4, s4⟩ := need_tail h4 (by decide) e3
      obtain ⟨rfl, rfl⟩ := ok_eq h
      refine ⟨goodS_st (by omega) (by omega) (.inl rfl) good_nil (.inr nv) gv goodS_ce (by simp [chl]) goodS_ce (by simp [chl]) goodS_ce, fun lf hlf => ?_⟩
      have := sm_len_plain lf 7 (hd l).p [] .nil v ce ce (by omega) (by omega)
      rw [hnil] at this
      simp only [List.length_nil] at this
      omega
    split at h
    · rename_i h0
      obtain ⟨e0, s0⟩ := tok_tail h0 (by decide) he
      obtain ⟨v, l3, h3, h⟩ := bnd_ok h
      obtain ⟨gv, nv, qv⟩ := held_good e0 (by omega) h3
      obtain ⟨e3, s3⟩ := held_tail h3 e0
      obtain ⟨th, l4, h4, h⟩ := bnd_ok h
      obtain ⟨e4, s4⟩ := st_ends f 0 d l3 th l4 e3 h4
      have q1 := st_good f 0 d l3 th l4 ⟨h13, fun h => by omega⟩ e3 (by omega) h4 (by omega)
      unfold StG at q1
      rw [if_neg (by omega)] at q1
      split at h
      · rename_i h5
        obtain ⟨e5, s5⟩ := tok_tail h5 (by decide) e4
        obtain ⟨el, l6, h7, h⟩ := bnd_ok h
        obtain ⟨e6, s6⟩ := st_ends f 0 d l4.tail el l6 e5 h7
        have q2 := st_good f 0 d l4.tail el l6 ⟨h13, fun h => by omega⟩ e5 (by omega) h7 (by omega)
        unfold StG at q2
        rw [if_neg (by omega)] at q2
        obtain ⟨rfl, rfl⟩ := ok_eq h
        refine ⟨goodS_st (by omega) (by omega) (.inl rfl) good_nil (.inr nv) gv q1.1 (by have := q1.2.1; omega) q2.1 (by have := q2.2.1; omega) goodS_ce, fun lf hlf => ?_⟩
        have a1 := q1.2.2 lf hlf
        have a2 := q2.2.2 lf hlf
        rw [if_pos rfl] at a1 a2
        have e : smT lf (st 4 (hd l).p [] .nil v th el) = ([105, 102] ++ [32, 40]) ++ wrT v ++ [41] ++ blT lf th ++ (if isCe el then [] else [32, 101, 108, 115, 101] ++ blT lf el) := by simp [smT]
        rw [e]
        split
        · simp only [List.length_append, List.length_cons, List.length_nil]
          omega
        · simp only [List.length_append, List.length_cons, List.length_nil]
          omega
      · obtain ⟨rfl, rfl⟩ := ok_eq h
        refine ⟨goodS_st (by omega) (by omega) (.inl rfl) good_nil (.inr nv) gv q1.1 (by have := q1.2.1; omega) goodS_ce (by simp [chl]) goodS_ce, fun lf hlf => ?_⟩
        have a1 := q1.2.2 lf hlf
        rw [if_pos rfl] at a1
        have e : smT lf (st 4 (hd l).p [] .nil v th ce) = ([105, 102] ++ [32, 40]) ++ wrT v ++ [41] ++ blT lf th := by simp [smT, isCe]
        rw [e]
        simp only [List.length_append, List.length_cons, List.length_nil]
        omega
    split at h
    · rename_i h0
      obtain ⟨e0, s0⟩ := tok_tail h0 (by decide) he
      obtain ⟨v, l3, h3, h⟩ := bnd_ok h
      obtain ⟨gv, nv, qv⟩ := held_good e0 (by omega) h3
      obtain ⟨e3, s3⟩ := held_tail h3 e0
      obtain ⟨th, l4, h4, h⟩ := bnd_ok h
      have q1 := st_good f 0 d l3 th l4 ⟨h13, fun h => by omega⟩ e3 (by omega) h4 (by omega)
      unfold StG at q1
      rw [if_neg (by omega)] at q1
      obtain ⟨rfl, rfl⟩ := ok_eq h
      refine ⟨goodS_st (by omega) (by omega) (.inl rfl) good_nil (.inr nv) gv q1.1 (by have := q1.2.1; omega) goodS_ce (by simp [chl]) goodS_ce, fun lf hlf => ?_⟩
      have a1 := q1.2.2 lf hlf
      rw [if_pos rfl] at a1
      have e : smT lf (st 5 (hd l).p [] .nil v th ce) = ([119, 104, 105, 108, 101] ++ [32, 40]) ++ wrT v ++ [41] ++ blT lf th := by simp [smT]
      rw [e]
      simp only [List.length_append, List.length_cons, List.length_nil]
      omega
    · cases h
  | f + 1, g + 3, d, l, t, l', hd', he, h6, h, hg => by omega
end Go.Proofs.YtpakgaegckkmnaaGreatDoor

namespace Go.Proofs.YtpakgaegckkmnaaGreatDoor
set_option linter.unusedVariables false
set_option linter.unusedSimpArgs false
open Go Go.RowKit

theorem par_good {l l' : List Tok} {t : Tr} (he : Ends l) (h : parV l = .ok (t, l')) : ∃ x : By × Int, t = pr x.1 x.2 ∧ (paO x).length + 2 + 30 * l'.length ≤ 30 * l.length := by
  unfold parV at h
  obtain ⟨nm, l1, h1, h⟩ := bnd_ok h
  obtain ⟨e1, s1⟩ := name_tail h1 he
  obtain ⟨_, _, hn12, _⟩ := name_ok h1
  obtain ⟨_, l2, h2, h⟩ := bnd_ok h
  obtain ⟨e2, s2⟩ := need_tail h2 (by decide) e1
  split at h
  · rename_i h3
    obtain ⟨e3, s3⟩ := tok_tail h3 (by decide) e2
    obtain ⟨rfl, rfl⟩ := ok_eq h
    exact ⟨(nm, 2), rfl, by simp [paO]; omega⟩
  · obtain ⟨_, l3, h3, h⟩ := bnd_ok h
    obtain ⟨e3, s3⟩ := need_tail h3 (by decide) e2
    obtain ⟨rfl, rfl⟩ := ok_eq h
    exact ⟨(nm, 1), rfl, by simp [paO]; omega⟩
theorem paT_cons (x : By × Int) (xs : List (By × Int)) : (paT (x :: xs)).length ≤ (paO x).length + 2 + (paT xs).length := by
  cases xs with
  | nil => simp [paT]
  | cons y xs => simp [paT]; omega
theorem parl_good : ∀ (f : Nat) {l l' : List Tok} {t : Tr}, Ends l → parlV f l = .ok (t, l') → ∃ xs : List (By × Int), t = psT xs ∧ (paT xs).length + 30 * l'.length ≤ 30 * l.length ∧ xs.length + l'.length ≤ l.length
  | 0, l, l', t, he, h => by simp [parlV] at h
  | f + 1, l, l', t, he, h => by
    rw [parlV] at h
    obtain ⟨x, l1, h1, h⟩ := bnd_ok h
    obtain ⟨e1, s1⟩ := par_tail h1 he
    obtain ⟨p, rfl, q1⟩ := par_good he h1
    split at h
    · rename_i h2
      obtain ⟨e2, s2⟩ := tok_tail h2 (by decide) e1
      obtain ⟨g, l3, h3, h⟩ := bnd_ok h
      obtain ⟨xs, rfl, q2, q3⟩ := parl_good f e2 h3
      obtain ⟨rfl, rfl⟩ := ok_eq h
      have := paT_cons p xs
      exact ⟨p :: xs, rfl, by omega, by simp; omega⟩
    · obtain ⟨_, l3, h3, h⟩ := bnd_ok h
      obtain ⟨e3, s3⟩ := need_tail h3 (by decide) e1
      obtain ⟨rfl, rfl⟩ := ok_eq h
      exact ⟨[p], rfl, by simp [paT]; omega, by simp; omega⟩
theorem pars_good {l l' : List Tok} {t : Tr} (he : Ends l) (h : parsV l = .ok (t, l')) : ∃ xs : List (By × Int), t = psT xs ∧ (paT xs).length + 30 * l'.length ≤ 30 * l.length ∧ xs.length + l'.length ≤ l.length := by
  unfold parsV at h
  split at h
  · rename_i h2
    obtain ⟨e2, s2⟩ := tok_tail h2 (by decide) he
    obtain ⟨rfl, rfl⟩ := ok_eq h
    exact ⟨[], rfl, by simp [paT]; omega, by simp⟩
  · exact parl_good _ he h
/-- A function as it is read. -/
def GoodF (F : Fun) : Prop := GoodS F.body ∧ chl F.body ≤ 1000000 ∧ F.ps.length ≤ 1000000
theorem fn_good {l l' : List Tok} {t : Tr} (he : Ends l) (h6 : l.length ≤ 1000000) (h : fnV l = .ok (t, l')) : ∃ F : Fun, t = F.tr ∧ GoodF F ∧ (fuT F).length + 100 * l'.length ≤ 100 * l.length := by
  unfold fnV at h
  obtain ⟨_, l1, h1, h⟩ := bnd_ok h
  obtain ⟨e1, s1⟩ := need_tail h1 (by decide) he
  obtain ⟨nm, l2, h2, h⟩ := bnd_ok h
  obtain ⟨e2, s2⟩ := name_tail h2 e1
  obtain ⟨_, _, hn12, _⟩ := name_ok h2
  obtain ⟨_, l3, h3, h⟩ := bnd_ok h
  obtain ⟨e3, s3⟩ := need_tail h3 (by decide) e2
  obtain ⟨ps, l4, h4, h⟩ := bnd_ok h
  obtain ⟨e4, s4⟩ := pars_tail h4 e3
  obtain ⟨xs, rfl, q1, q2⟩ := pars_good e3 h4
  obtain ⟨b, l5, h5, h⟩ := bnd_ok h
  have q := st_good _ 0 0 l4 b l5 ⟨by omega, fun h => by omega⟩ e4 (by omega) h5 (by omega)
  unfold StG at q
  rw [if_neg (by omega)] at q
  obtain ⟨rfl, rfl⟩ := ok_eq h
  refine ⟨⟨nm, .i64, (hd l).p, xs, b⟩, rfl, ⟨q.1, by have := q.2.1; show chl b ≤ _; omega, by show xs.length ≤ _; omega⟩, ?_⟩
  have a := q.2.2 [] (by simp)
  rw [if_pos rfl] at a
  unfold fuT
  simp only [List.length_append, List.length_cons, List.length_nil]
  omega
theorem prog_good : ∀ (f n : Nat) {l l' : List Tok} {t : Tr}, n ≤ 12 → Ends l → l.length ≤ 1000000 → progV f n l = .ok (t, l') → ∃ L : List Fun, t = chain (L.map Fun.tr) ∧ (∀ F ∈ L, GoodF F) ∧ (prT L).length + 100 * l'.length ≤ 100 * l.length ∧ n + L.length ≤ 12
  | 0, n, l, l', t, hn, he, h6, h => by simp [progV] at h
  | f + 1, n, l, l', t, hn, he, h6, h => by
    rw [progV] at h
    split at h
    · obtain ⟨rfl, rfl⟩ := ok_eq h
      exact ⟨[], rfl, fun F hF => by simp at hF, by simp [prT], by simpa using hn⟩
    split at h
    · cases h
    · obtain ⟨x, l1, h1, h⟩ := bnd_ok h
      obtain ⟨e1, s1⟩ := fn_tail h1 he
      obtain ⟨F, rfl, gF, q1⟩ := fn_good he h6 h1
      obtain ⟨g, l2, h2, h⟩ := bnd_ok h
      obtain ⟨L, rfl, gL, q2, q3⟩ := prog_good f (n + 1) (by omega) e1 (by omega) h2
      obtain ⟨rfl, rfl⟩ := ok_eq h
      refine ⟨F :: L, rfl, fun G hG => ?_, by simp [prT] at q2 ⊢; omega, by simp; omega⟩
      rcases List.mem_cons.1 hG with rfl | hG
      · exact gF
      · exact gL G hG
theorem psT_inj {a b : List (By × Int)} (h : psT a = psT b) : a = b := by
  have h1 := chain_inj h
  induction a generalizing b with
  | nil => cases b with
    | nil => rfl
    | cons y b => simp at h1
  | cons x a ih => cases b with
    | nil => simp at h1
    | cons y b =>
      simp only [List.map_cons, List.cons.injEq] at h1
      obtain ⟨h2, h3⟩ := h1
      injection h2 with h2
      simp only [List.cons.injEq, DataW.lit.injEq, Lit.string.injEq, Lit.int.injEq] at h2
      have : x = y := Prod.ext h2.1 h2.2.1.2
      rw [this, ih (b := b) (by unfold psT; rw [h3]) h3]
theorem tr_inj {F G : Fun} (h : F.tr = G.tr) : F = G := by
  unfold Fun.tr at h
  injection h with h
  simp only [List.cons.injEq, DataW.lit.injEq, Lit.string.injEq, Lit.int.injEq] at h
  obtain ⟨h1, ⟨h2, h3⟩, h4, h5, _⟩ := h
  cases F
  cases G
  simp only [Fun.mk.injEq]
  exact ⟨h1, h2, h3, psT_inj h4, h5⟩
theorem trs_inj {a b : List Fun} (h : chain (a.map Fun.tr) = chain (b.map Fun.tr)) : a = b := by
  have h1 := chain_inj h
  induction a generalizing b with
  | nil => cases b with
    | nil => rfl
    | cons y b => simp at h1
  | cons x a ih => cases b with
    | nil => simp at h1
    | cons y b =>
      simp only [List.map_cons, List.cons.injEq] at h1
      rw [tr_inj h1.1, ih (b := b) (by rw [h1.2]) h1.2]
/-- The functions that a text is. -/
theorem parse_good {s : By} {t : Tr} (hs : s.length ≤ 1000000) (h : parseV s = .ok t) : ∃ L : List Fun, t = chain (L.map Fun.tr) ∧ (∀ F ∈ L, GoodF F) ∧ (prT L).length ≤ 150100 ∧ L.length ≤ 12 := by
  unfold parseV at h
  split at h
  · cases h
  · rename_i l hl
    split at h
    · cases h
    · rename_i t' l' hp
      injection h with h
      subst h
      obtain ⟨e1, e2⟩ := tok_ends hl hs
      obtain ⟨L, a, b, c, d⟩ := prog_good _ 0 (by omega) e1 (by omega) hp
      exact ⟨L, a, b, by omega, by omega⟩
/-- Print of what Parse told. -/
theorem print_of {S : Nat → Prop} {w : World} {v : Value} {n B : Nat} {cs : List Value} {L : List Fun} (he : EnvW 11 w) (hr : w.ownsRow B 41 4 v n cs) (hS : ∀ i, v.ownBlock = some i → S i) (hx : FnAt S w (chain (L.map Fun.tr)) cs) (hg : ∀ F ∈ L, GoodF F) (hl : (prT L).length ≤ 150100) (h12 : L.length ≤ 12) :
    n = L.length ∧ Calls Tryz.prog 9 #[v] w fun e w' => e = .returned (.string ⟨(prT L).toArray⟩) ∧ Below w.heap.size w w' := by
  obtain ⟨L', e1, e2, e3⟩ := fns_open _ cs hx
  have := trs_inj e1
  subst this
  have hn : n = L.length := by have := hr.1; omega
  exact ⟨hn, print_walk S w v n cs L he ⟨own_mono hr (Nat.zero_le _), hS⟩ hn (by omega) e3 (fun F hF => ⟨pb_all (hg F hF).1 (hg F hF).2.1, (hg F hF).2.2⟩) (by omega)⟩
end Go.Proofs.YtpakgaegckkmnaaGreatDoor

namespace Go.Proofs.YtpakgaegckkmnaaGreatDoor
set_option linter.unusedVariables false
set_option linter.unusedSimpArgs false
open Go Go.RowKit

/-- A tree without its places. -/
def er : Tr → Tr
  | .agg [.lit (.int k1 c), .lit (.int k2 _), .lit (.int k3 n), .lit (.string nm), .lit (.string op), l, r, g] => .agg [.lit (.int k1 c), .lit (.int k2 0), .lit (.int k3 n), .lit (.string nm), .lit (.string op), er l, er r, er g]
  | .agg [.lit (.int k1 c), .lit (.int k2 _), .lit (.string nm), ix, v, th, el] => .agg [.lit (.int k1 c), .lit (.int k2 0), .lit (.string nm), er ix, er v, er th, er el]
  | .agg [.lit (.string nm), .lit (.int k _), ps, b] => .agg [.lit (.string nm), .lit (.int k 0), er ps, er b]
  | .slice [x] [g] => .slice [er x] [er g]
  | t => t
theorem er_nd (c a n : Int) (nm op : By) (l r g : Tr) : er (nd c a n nm op l r g) = nd c 0 n nm op (er l) (er r) (er g) := by rw [er]
theorem er_st (c a : Int) (nm : By) (ix v th el : Tr) : er (st c a nm ix v th el) = st c 0 nm (er ix) (er v) (er th) (er el) := by rw [er]
theorem er_fn (nm : By) (a : Int) (ps b : Tr) : er (fnc nm a ps b) = fnc nm 0 (er ps) (er b) := by rw [er]
theorem er_cc (x g : Tr) : er (cc x g) = cc (er x) (er g) := by rw [er]
theorem er_ce : er ce = ce := by unfold er; rfl
theorem er_nil : er .nil = .nil := by unfold er; rfl
/-- A token without its place. -/
def ph (t : Tok) : Tok := ⟨t.k, t.t, 0⟩
abbrev pl (l : List Tok) : List Tok := l.map ph
theorem pl_hd (l : List Tok) : hd (pl l) = ph (hd l) := by cases l <;> rfl
theorem pl_t (l : List Tok) : (hd (pl l)).t = (hd l).t := by rw [pl_hd]; rfl
theorem pl_k (l : List Tok) : (hd (pl l)).k = (hd l).k := by rw [pl_hd]; rfl
theorem pl_p (l : List Tok) : (hd (pl l)).p = 0 := by rw [pl_hd]; rfl
theorem pl_tail (l : List Tok) : (pl l).tail = pl l.tail := by cases l <;> rfl
/-- An answer without places. -/
def eR {α : Type} (e : α → α) : R α → R α
  | .ok (t, l) => .ok (e t, pl l)
  | .error (k, _) => .error (k, 0)
theorem e_bnd {α β : Type} {e : α → α} {e' : β → β} {x : R α} {f f' : α → List Tok → R β} (h : ∀ t l, f' (e t) (pl l) = eR e' (f t l)) : bnd (eR e x) f' = eR e' (bnd x f) := by
  rcases x with ⟨k, p⟩ | ⟨t, l⟩
  · rfl
  · exact h t l
theorem e_need (x : By) (l : List Tok) : needV x (pl l) = eR id (needV x l) := by
  unfold needV
  rw [pl_t, pl_p, pl_tail]
  split <;> rfl
theorem e_name (l : List Tok) : nameVv (pl l) = eR id (nameVv l) := by
  unfold nameVv
  rw [pl_k, pl_t, pl_p, pl_tail]
  split
  · rfl
  · split <;> rfl
theorem e_num (l : List Tok) : numVv (pl l) = eR id (numVv l) := by
  unfold numVv
  rw [pl_t, pl_p, pl_tail]
  split <;> rfl
theorem e_bound (d : Nat) (l : List Tok) : boundV d (pl l) = eR id (boundV d l) := by
  unfold boundV
  rw [pl_k, pl_p]
  split <;> rfl
theorem er_ex : ∀ (f g lv d : Nat) (x : Tr) (p : Nat) (l : List Tok), exV f g lv d (er x) 0 (pl l) = eR er (exV f g lv d x p l)
  | 0, _, _, _, _, _, _ => by rw [exV, exV]; rfl
  | f + 1, 0, lv, d, x, p, l => by
    rw [exV, exV]
    split
    · have := er_ex f 2 0 d .nil 0 l
      rw [er_nil] at this
      exact this
    · have h0 := er_ex f 0 (lv + 1) d .nil 0 l
      rw [er_nil] at h0
      rw [h0, pl_p]
      exact e_bnd fun t l1 => er_ex f 1 lv d t _ l1
  | f + 1, 1, lv, d, x, p, l => by
    rw [exV, exV, pl_t, pl_tail]
    split
    · have h0 := er_ex f 0 (lv + 1) d .nil 0 l.tail
      rw [er_nil] at h0
      rw [h0]
      refine e_bnd fun t l1 => ?_
      have := er_ex f 1 lv d (nd 3 p 0 [] (hd l).t x t ce) p l1
      rw [er_nd, er_ce] at this
      exact this
    · rfl
  | f + 1, 2, lv, d, x, p, l => by
    rw [exV, exV, e_bound, pl_t, pl_p, pl_tail]
    refine e_bnd fun _ _ => ?_
    split
    · have h0 := er_ex f 2 0 (d + 1) .nil 0 l.tail
      rw [er_nil] at h0
      rw [h0]
      refine e_bnd fun t l1 => ?_
      show _ = Except.ok (er _, _)
      rw [er_nd, er_ce, er_nil]
      rfl
    · have h0 := er_ex f 4 0 d .nil 0 l
      rw [er_nil] at h0
      rw [h0]
      exact e_bnd fun t l1 => er_ex f 3 0 d t _ l1
  | f + 1, 3, lv, d, x, p, l => by
    rw [exV, exV, pl_t, pl_tail]
    split
    · have h0 := er_ex f 6 0 d .nil 0 l.tail
      rw [er_nil] at h0
      rw [h0]
      refine e_bnd fun t l1 => ?_
      have := er_ex f 3 0 d (nd 8 p 0 [] [] x t ce) p l1
      rw [er_nd, er_ce] at this
      exact this
    · rfl
  | f + 1, 4, lv, d, x, p, l => by
    rw [exV, exV, pl_k, pl_t, pl_p, pl_tail, e_num, e_name]
    have h5 : ∀ l, exV f 5 0 d .nil 0 (pl l) = eR er (exV f 5 0 d .nil 0 l) := fun l => by
      have := er_ex f 5 0 d .nil 0 l
      rw [er_nil] at this
      exact this
    split
    · refine e_bnd fun v l1 => ?_
      show _ = Except.ok (er _, _)
      rw [er_nd, er_ce, er_nil]
      rfl
    split
    · refine e_bnd fun nm l1 => ?_
      rw [pl_t, pl_tail, pl_t, pl_tail]
      split
      · split
        · show _ = Except.ok (er _, _)
          rw [er_nd, er_ce, er_nil]
          rfl
        · have h7 := er_ex f 7 0 d ce 0 l1.tail
          rw [er_ce] at h7
          rw [h7]
          refine e_bnd fun g l2 => ?_
          show _ = Except.ok (er _, _)
          rw [er_nd, er_nil]
          rfl
      · show _ = Except.ok (er _, _)
        rw [er_nd, er_ce, er_nil]
        rfl
    split
    · rw [h5]
      refine e_bnd fun t l1 => ?_
      show _ = Except.ok (er _, _)
      rw [er_nd, er_ce, er_nil]
      rfl
    split
    · rw [h5]
      refine e_bnd fun t l1 => ?_
      show _ = Except.ok (er _, _)
      rw [er_nd, er_ce, er_nil]
      rfl
    split
    · rw [e_need]
      refine e_bnd fun _ l1 => ?_
      rw [e_need]
      refine e_bnd fun _ l2 => ?_
      show _ = Except.ok (er _, _)
      rw [er_nd, er_ce, er_nil]
      rfl
    · exact h5 l
  | f + 1, 5, lv, d, x, p, l => by
    rw [exV, exV, e_need]
    refine e_bnd fun _ l1 => ?_
    have h0 := er_ex f 0 1 (d + 1) .nil 0 l1
    rw [er_nil] at h0
    rw [h0]
    refine e_bnd fun t l2 => ?_
    rw [e_need]
    exact e_bnd fun _ l3 => rfl
  | f + 1, 6, lv, d, x, p, l => by
    rw [exV, exV]
    have h0 := er_ex f 0 1 (d + 1) .nil 0 l
    rw [er_nil] at h0
    rw [h0]
    refine e_bnd fun t l2 => ?_
    rw [e_need]
    exact e_bnd fun _ l3 => rfl
  | f + 1, 7, lv, d, x, p, l => by
    rw [exV, exV]
    have h0 := er_ex f 0 1 (d + 1) .nil 0 l
    rw [er_nil] at h0
    rw [h0]
    refine e_bnd fun t l2 => ?_
    rw [pl_t, pl_tail]
    split
    · have h7 := er_ex f 7 0 d ce 0 l2.tail
      rw [er_ce] at h7
      rw [h7]
      refine e_bnd fun g l3 => ?_
      show _ = Except.ok (er _, _)
      rw [er_cc]
    · rw [e_need]
      refine e_bnd fun _ l3 => ?_
      show _ = Except.ok (er _, _)
      rw [er_cc, er_ce]
  | f + 1, g + 8, lv, d, x, p, l => by rw [exV, exV]; rfl
theorem er_pr (nm : By) (ty : Int) : er (pr nm ty) = pr nm ty := by unfold er; rfl
theorem ef_pl (l : List Tok) : ef (pl l) = ef l := by simp [ef]
theorem e_expr (l : List Tok) : exprV (pl l) = eR er (exprV l) := by
  unfold exprV
  rw [ef_pl]
  have := er_ex (ef l) 0 1 0 .nil 0 l
  rw [er_nil] at this
  exact this
theorem e_held (l : List Tok) : heldV (pl l) = eR er (heldV l) := by
  unfold heldV
  rw [ef_pl]
  have := er_ex (ef l) 5 0 0 .nil 0 l
  rw [er_nil] at this
  exact this
theorem e_idx (l : List Tok) : idxV (pl l) = eR er (idxV l) := by
  unfold idxV
  rw [ef_pl]
  have := er_ex (ef l) 6 0 0 .nil 0 l
  rw [er_nil] at this
  exact this
theorem e_args (l : List Tok) : argsV (pl l) = eR er (argsV l) := by
  unfold argsV argV
  rw [ef_pl, pl_t, pl_tail]
  split
  · show _ = Except.ok (er _, _)
    rw [er_ce]
  · have := er_ex (ef l) 7 0 0 ce 0 l
    rw [er_ce] at this
    exact this
theorem e_named (a : Nat) (l : List Tok) : namedV 0 (pl l) = eR er (namedV a l) := by
  unfold namedV
  rw [e_name]
  refine e_bnd fun nm l1 => ?_
  rw [pl_t, pl_tail]
  split
  · rw [e_args]
    refine e_bnd fun g l2 => ?_
    show _ = Except.ok (er _, _)
    rw [er_st, er_nd, er_nil, er_ce]
    rfl
  split
  · rw [e_idx]
    refine e_bnd fun i l2 => ?_
    rw [e_need]
    refine e_bnd fun _ l3 => ?_
    rw [e_expr]
    refine e_bnd fun v l4 => ?_
    show _ = Except.ok (er _, _)
    rw [er_st, er_ce]
    rfl
  · rw [e_need]
    refine e_bnd fun _ l3 => ?_
    rw [e_expr]
    refine e_bnd fun v l4 => ?_
    show _ = Except.ok (er _, _)
    rw [er_st, er_nil, er_ce]
    rfl
theorem e_st : ∀ (f g d : Nat) (l : List Tok), stV f g d (pl l) = eR er (stV f g d l)
  | 0, _, _, _ => by rw [stV, stV]; rfl
  | f + 1, 0, d, l => by
    rw [stV, stV, e_bound, e_need]
    refine e_bnd fun _ _ => ?_
    exact e_bnd fun _ l1 => e_st f 1 d l1
  | f + 1, 1, d, l => by
    rw [stV, stV, pl_t, pl_tail]
    split
    · show _ = Except.ok (er _, _)
      rw [er_ce]
    · rw [e_st f 2 (d + 1) l]
      refine e_bnd fun t l1 => ?_
      rw [e_st f 1 d l1]
      refine e_bnd fun g l2 => ?_
      show _ = Except.ok (er _, _)
      rw [er_cc]
  | f + 1, 2, d, l => by
    rw [stV, stV, pl_k, pl_t, pl_p, pl_tail, e_named (hd l).p l, e_name, e_expr, e_held]
    split
    · refine e_bnd fun t l1 => ?_
      rw [e_need]
      exact e_bnd fun _ l2 => rfl
    split
    · refine e_bnd fun nm l1 => ?_
      rw [e_need]
      refine e_bnd fun _ l2 => ?_
      rw [e_expr]
      refine e_bnd fun v l3 => ?_
      rw [e_need]
      refine e_bnd fun _ l4 => ?_
      show _ = Except.ok (er _, _)
      rw [er_st, er_nil, er_ce]
      rfl
    split
    · refine e_bnd fun v l3 => ?_
      rw [e_need]
      refine e_bnd fun _ l4 => ?_
      show _ = Except.ok (er _, _)
      rw [er_st, er_nil, er_ce]
      rfl
    split
    · refine e_bnd fun v l3 => ?_
      rw [e_need]
      refine e_bnd fun _ l4 => ?_
      show _ = Except.ok (er _, _)
      rw [er_st, er_nil, er_ce]
      rfl
    split
    · refine e_bnd fun v l1 => ?_
      rw [e_st f 0 d l1]
      refine e_bnd fun th l2 => ?_
      rw [pl_t, pl_tail]
      split
      · rw [e_st f 0 d l2.tail]
        refine e_bnd fun el l3 => ?_
        show _ = Except.ok (er _, _)
        rw [er_st, er_nil]
        rfl
      · show _ = Except.ok (er _, _)
        rw [er_st, er_nil, er_ce]
        rfl
    split
    · refine e_bnd fun v l1 => ?_
      rw [e_st f 0 d l1]
      refine e_bnd fun th l2 => ?_
      show _ = Except.ok (er _, _)
      rw [er_st, er_nil, er_ce]
      rfl
    · rfl
  | f + 1, g + 3, d, l => by rw [stV, stV]; rfl
theorem e_par (l : List Tok) : parV (pl l) = eR er (parV l) := by
  unfold parV
  rw [e_name]
  refine e_bnd fun nm l1 => ?_
  rw [e_need]
  refine e_bnd fun _ l2 => ?_
  rw [pl_t, pl_tail, e_need]
  split
  · show _ = Except.ok (er _, _)
    rw [er_pr]
    rfl
  · refine e_bnd fun _ l3 => ?_
    show _ = Except.ok (er _, _)
    rw [er_pr]
    rfl
theorem e_parl : ∀ (f : Nat) (l : List Tok), parlV f (pl l) = eR er (parlV f l)
  | 0, _ => by rw [parlV, parlV]; rfl
  | f + 1, l => by
    rw [parlV, parlV, e_par]
    refine e_bnd fun x l1 => ?_
    rw [pl_t, pl_tail, e_need, e_parl f l1.tail]
    split
    · refine e_bnd fun g l2 => ?_
      show _ = Except.ok (er _, _)
      rw [er_cc]
    · refine e_bnd fun _ l2 => ?_
      show _ = Except.ok (er _, _)
      rw [er_cc, er_ce]
theorem e_pars (l : List Tok) : parsV (pl l) = eR er (parsV l) := by
  unfold parsV
  rw [pl_t, pl_tail, List.length_map]
  split
  · show _ = Except.ok (er _, _)
    rw [er_ce]
  · exact e_parl _ l
theorem e_fn (l : List Tok) : fnV (pl l) = eR er (fnV l) := by
  unfold fnV
  rw [e_need, pl_p]
  refine e_bnd fun _ l1 => ?_
  rw [e_name]
  refine e_bnd fun nm l2 => ?_
  rw [e_need]
  refine e_bnd fun _ l3 => ?_
  rw [e_pars]
  refine e_bnd fun ps l4 => ?_
  unfold blockV
  rw [List.length_map, e_st]
  refine e_bnd fun b l5 => ?_
  show _ = Except.ok (er _, _)
  rw [er_fn]
  rfl
theorem e_prog : ∀ (f n : Nat) (l : List Tok), progV f n (pl l) = eR er (progV f n l)
  | 0, _, _ => by rw [progV, progV]; rfl
  | f + 1, n, l => by
    rw [progV, progV, pl_k, pl_p]
    split
    · show _ = Except.ok (er _, _)
      rw [er_ce]
    split
    · rfl
    · rw [e_fn]
      refine e_bnd fun x l1 => ?_
      rw [e_prog f (n + 1) l1]
      refine e_bnd fun g l2 => ?_
      show _ = Except.ok (er _, _)
      rw [er_cc]
end Go.Proofs.YtpakgaegckkmnaaGreatDoor

namespace Go.Proofs.YtpakgaegckkmnaaGreatDoor
set_option linter.unusedVariables false
set_option linter.unusedSimpArgs false
open Go Go.RowKit

theorem er_chain : ∀ xs : List Tr, er (chain xs) = chain (xs.map er)
  | [] => er_ce
  | x :: xs => by
    show er (cc x (chain xs)) = cc (er x) (chain (xs.map er))
    rw [er_cc, er_chain xs]
theorem er_isNd {t : Tr} (h : IsNd t) : IsNd (er t) := by
  obtain ⟨c, a, n, nm, op, l, r, g, rfl⟩ := h
  rw [er_nd]
  exact isNd _ _ _ _ _ _ _ _
theorem er_hold {t : Tr} (h : t = .nil ∨ IsNd t) (k : Nat) (s : By) : hold (er t) k s = hold t k s := by
  rcases h with rfl | ⟨c, a, n, nm, op, l, r, g, rfl⟩
  · rw [er_nil]
  · rw [er_nd, hold_nd, hold_nd]
    have : holdsV (nd c 0 n nm op (er l) (er r) (er g)) = holdsV (nd c a n nm op l r g) := by simp [holdsV]
    rw [this]
theorem er_sep (t : Tr) : sep (er t) = sep t := by unfold er; split <;> rfl
theorem er_isCe (t : Tr) : isCe (er t) = isCe t := by unfold er; split <;> rfl
theorem er_wr (t : Tr) (h : GoodE t) : wrT (er t) = wrT t := by
  unfold GoodE at h
  split at h
  · rename_i c a n nm op l r g
    obtain ⟨c1, c9, n0, n1, tl, tr, gl, gr, gg, xs, hg, hlen⟩ := h
    have IL := er_wr l gl
    have IR := er_wr r gr
    have IG := er_wr g gg
    show wrT (er (nd c a n nm op l r g)) = wrT (nd c a n nm op l r g)
    rw [er_nd]
    show wrT (.agg _) = wrT (.agg _)
    rw [wrT, wrT, IL, IR, IG, er_hold tl, er_hold tr, er_hold tl, er_hold tl]
  · obtain ⟨hn, hx, hg⟩ := h
    rename_i x g
    have IX := er_wr x hx
    have IG := er_wr g hg
    show wrT (er (cc x g)) = wrT (cc x g)
    rw [er_cc]
    show wrT (.slice [er x] [er g]) = wrT (.slice [x] [g])
    rw [wrT, wrT, IX, IG]
    rw [er_sep]
  · rw [show (DataW.slice [] [] : Tr) = ce from rfl, er_ce]
  · rw [er_nil]
  · exact h.elim
theorem er_stT (g : Tr) (h : GoodS g) : ∀ left, stT left (er g) = stT left g := by
  unfold GoodS at h
  split at h
  · rename_i c a nm ix v th el g'
    obtain ⟨c1, c8, ti, gi, tv, gv, gt, lt, ge, le, gg⟩ := h
    have IT := er_stT th gt
    have IE := er_stT el ge
    have IG := er_stT g' gg
    intro left
    show stT left (er (cc (st c a nm ix v th el) g')) = stT left (cc (st c a nm ix v th el) g')
    rw [er_cc, er_st]
    show stT left (.slice [.agg _] [_]) = stT left (.slice [.agg _] [_])
    rw [stT, stT, IG, IT, IE, er_wr ix gi, er_wr v gv, er_isCe]
  · intro left
    rw [show (DataW.slice [] [] : Tr) = ce from rfl, er_ce]
  · exact h.elim
/-- A function without its places. -/
def erF (F : Fun) : Fun := ⟨F.nm, F.kd, 0, F.ps, er F.body⟩
theorem er_psT (xs : List (By × Int)) : er (psT xs) = psT xs := by
  unfold psT
  rw [er_chain, List.map_map]
  exact congrArg chain (List.map_congr_left fun x _ => er_pr x.1 x.2)
theorem er_tr (F : Fun) : er F.tr = (erF F).tr := by
  show er (.agg [.lit (.string F.nm), .lit (.int F.kd F.at'), psT F.ps, F.body]) = .agg [.lit (.string F.nm), .lit (.int F.kd 0), psT F.ps, er F.body]
  rw [er, er_psT]
theorem er_fu {F : Fun} (h : GoodF F) : fuT (erF F) = fuT F := by
  unfold fuT blT erF
  rw [er_stT F.body h.1]
theorem er_prT : ∀ (L : List Fun), (∀ F ∈ L, GoodF F) → prT (L.map erF) = prT L
  | [], _ => rfl
  | F :: L, h => by
    show fuT (erF F) ++ prT (L.map erF) = fuT F ++ prT L
    rw [er_fu (h F (by simp)), er_prT L (fun G hG => h G (by simp [hG]))]
theorem er_trs (L : List Fun) : er (chain (L.map Fun.tr)) = chain ((L.map erF).map Fun.tr) := by
  rw [er_chain, List.map_map, List.map_map]
  exact congrArg chain (List.map_congr_left fun F _ => er_tr F)
end Go.Proofs.YtpakgaegckkmnaaGreatDoor

namespace Go.Proofs.YtpakgaegckkmnaaGreatDoor
set_option linter.unusedVariables false
set_option linter.unusedSimpArgs false
open Go Go.RowKit

/-- What leaves more than z behind it leaves as much ahead of r. -/
def LocAt {α : Type} (z r : List Tok) (x x' : R α) : Prop := ∀ t c, x = .ok (t, c) → z.length < c.length → ∃ b, b ≠ [] ∧ c = b ++ z ∧ x' = .ok (t, b ++ r)
theorem loc_b {α β : Type} {z r : List Tok} {x x' : R α} {k k' : α → List Tok → R β} (h1 : LocAt z r x x') (h2 : ∀ y b, b ≠ [] → x = .ok (y, b ++ z) → LocAt z r (k y (b ++ z)) (k' y (b ++ r))) (h3 : ∀ y l1 t c, x = .ok (y, l1) → k y l1 = .ok (t, c) → z.length < c.length → z.length < l1.length) : LocAt z r (bnd x k) (bnd x' k') := by
  intro t c h hc
  obtain ⟨y, l1, e1, e2⟩ := bnd_ok h
  obtain ⟨b, hb, rfl, e3⟩ := h1 y l1 e1 (h3 y l1 t c e1 e2 hc)
  obtain ⟨b', hb', rfl, e4⟩ := h2 y b hb e1 t c e2 hc
  refine ⟨b', hb', rfl, ?_⟩
  rw [e3]
  exact e4
theorem loc_ok {α : Type} {z r : List Tok} (t : α) (b : List Tok) : LocAt z r (.ok (t, b ++ z) : R α) (.ok (t, b ++ r)) := by
  intro t' c h hc
  injection h with h
  injection h with h1 h2
  subst h1
  subst h2
  refine ⟨b, ?_, rfl, rfl⟩
  intro e
  rw [e] at hc
  simp at hc
theorem app_hd {a : List Tok} (ha : a ≠ []) (z r : List Tok) : hd (a ++ z) = hd (a ++ r) := by
  cases a with
  | nil => exact absurd rfl ha
  | cons x a => rfl
theorem app_tail {a : List Tok} (ha : a ≠ []) (z : List Tok) : (a ++ z).tail = a.tail ++ z := by
  cases a with
  | nil => exact absurd rfl ha
  | cons x a => rfl
theorem ne_of_len {a z c : List Tok} (h1 : c.length ≤ (a ++ z).length) (h2 : z.length < c.length) : a ≠ [] := by
  intro e
  rw [e] at h1
  simp at h1
  omega
theorem loc_need {a z r : List Tok} (x : By) (ha : a ≠ []) : LocAt z r (needV x (a ++ z)) (needV x (a ++ r)) := by
  unfold needV
  rw [app_hd ha z r, app_tail ha z, app_tail ha r]
  split
  · exact loc_ok _ _
  · intro t c h; cases h
theorem loc_name {a z r : List Tok} (ha : a ≠ []) : LocAt z r (nameVv (a ++ z)) (nameVv (a ++ r)) := by
  unfold nameVv
  rw [app_hd ha z r, app_tail ha z, app_tail ha r]
  split
  · intro t c h; cases h
  · split
    · intro t c h; cases h
    · exact loc_ok _ _
theorem loc_num {a z r : List Tok} (ha : a ≠ []) : LocAt z r (numVv (a ++ z)) (numVv (a ++ r)) := by
  unfold numVv
  rw [app_hd ha z r, app_tail ha z, app_tail ha r]
  split
  · exact loc_ok _ _
  · intro t c h; cases h
theorem loc_bound {a z r : List Tok} (d : Nat) (ha : a ≠ []) : LocAt z r (boundV d (a ++ z)) (boundV d (a ++ r)) := by
  unfold boundV
  rw [app_hd ha z r]
  split
  · intro t c h; cases h
  · exact loc_ok _ _
theorem len_need {x : By} {l l1 : List Tok} {u : Unit} (h : needV x l = .ok (u, l1)) : l1.length ≤ l.length := by
  obtain ⟨_, rfl⟩ := need_ok h
  cases l <;> simp
theorem loc_ex : ∀ (f f' g lv d : Nat) (x : Tr) (p : Nat) (a z r : List Tok), f ≤ f' → (g ≤ 1 → 1 ≤ lv) → Ends (a ++ z) → LocAt z r (exV f g lv d x p (a ++ z)) (exV f' g lv d x p (a ++ r))
  | 0, _, _, _, _, _, _, _, _, _, _, _, _ => by intro t c h; simp [exV] at h
  | f + 1, 0, _, _, _, _, _, _, _, _, hf, _, _ => by omega
  | f + 1, f' + 1, 0, lv, d, x, p, a, z, r, hf, hv, he => by
    intro t c h hc
    have ha := ne_of_len (ex_ends _ _ _ _ _ _ _ _ _ hv he h).2.1 hc
    rw [exV] at h ⊢
    revert t c
    rw [app_hd ha z r]
    split
    · exact loc_ex f f' 2 0 d .nil 0 a z r (by omega) (fun h => by omega) he
    · refine loc_b (loc_ex f f' 0 (lv + 1) d .nil 0 a z r (by omega) (fun _ => by omega) he) (fun y b hb e => ?_) (fun y l1 t c e1 e2 hc => ?_)
      · exact loc_ex f f' 1 lv d y _ b z r (by omega) (fun _ => hv (by omega)) (ex_ends _ _ _ _ _ _ _ _ _ (fun _ => by omega) he e).1
      · have := (ex_ends _ _ _ _ _ _ _ _ _ (fun _ => hv (by omega)) (ex_ends _ _ _ _ _ _ _ _ _ (fun _ => by omega) he e1).1 e2).2.1
        omega
  | f + 1, f' + 1, 1, lv, d, x, p, a, z, r, hf, hv, he => by
    intro t c h hc
    have ha := ne_of_len (ex_ends _ _ _ _ _ _ _ _ _ hv he h).2.1 hc
    rw [exV] at h ⊢
    revert t c
    rw [app_hd ha z r, app_tail ha z, app_tail ha r]
    split
    · rename_i hn
      have hlv := hv (by omega)
      have hk : (hd (a ++ z)).t ≠ [] := fun e => by
        rw [app_hd ha z r] at e
        rw [e] at hn
        have h0 : nearV [] = 0 := by decide
        omega
      have t1 := (he.tail hk).1
      rw [app_tail ha z] at t1
      refine loc_b (loc_ex f f' 0 (lv + 1) d .nil 0 a.tail z r (by omega) (fun _ => by omega) t1) (fun y b hb e => ?_) (fun y l1 t c e1 e2 hc => ?_)
      · exact loc_ex f f' 1 lv d _ _ b z r (by omega) (fun _ => hlv) (ex_ends _ _ _ _ _ _ _ _ _ (fun _ => by omega) t1 e).1
      · have := (ex_ends _ _ _ _ _ _ _ _ _ (fun _ => hlv) (ex_ends _ _ _ _ _ _ _ _ _ (fun _ => by omega) t1 e1).1 e2).2.1
        omega
    · exact loc_ok _ _
  | f + 1, f' + 1, 2, lv, d, x, p, a, z, r, hf, hv, he => by
    intro t c h hc
    have ha := ne_of_len (ex_ends _ _ _ _ _ _ _ _ _ hv he h).2.1 hc
    rw [exV] at h ⊢
    revert t c
    rw [app_hd ha z r, app_tail ha z, app_tail ha r]
    refine loc_b (loc_bound d ha) (fun _ _ _ _ => ?_) (fun y l1 t c e1 e2 hc => ?_)
    · split
      · rename_i hn
        have hk : (hd (a ++ z)).t ≠ [] := by rw [app_hd ha z r]; rcases hn with hn | hn <;> rw [hn] <;> simp
        have t1 := (he.tail hk).1
        rw [app_tail ha z] at t1
        refine loc_b (loc_ex f f' 2 0 (d + 1) .nil 0 a.tail z r (by omega) (fun h => by omega) t1) (fun y b hb e => loc_ok _ _) (fun y l1 t c e1 e2 hc => ?_)
        obtain ⟨_, rfl⟩ := ok_eq e2
        exact hc
      · refine loc_b (loc_ex f f' 4 0 d .nil 0 a z r (by omega) (fun h => by omega) he) (fun y b hb e => ?_) (fun y l1 t c e1 e2 hc => ?_)
        · exact loc_ex f f' 3 0 d y _ b z r (by omega) (fun h => by omega) (ex_ends _ _ _ _ _ _ _ _ _ (fun h => by omega) he e).1
        · have := (ex_ends _ _ _ _ _ _ _ _ _ (fun h => by omega) (ex_ends _ _ _ _ _ _ _ _ _ (fun h => by omega) he e1).1 e2).2.1
          omega
    · unfold boundV at e1
      split at e1
      · cases e1
      · injection e1 with e1
        injection e1 with _ e1
        subst e1
        cases a with
        | nil => exact absurd rfl ha
        | cons x a => simp; omega
  | f + 1, f' + 1, 3, lv, d, x, p, a, z, r, hf, hv, he => by
    intro t c h hc
    have ha := ne_of_len (ex_ends _ _ _ _ _ _ _ _ _ hv he h).2.1 hc
    rw [exV] at h ⊢
    revert t c
    rw [app_hd ha z r, app_tail ha z, app_tail ha r]
    split
    · rename_i hn
      have t1 := (he.tail (by rw [app_hd ha z r, hn]; simp)).1
      rw [app_tail ha z] at t1
      refine loc_b (loc_ex f f' 6 0 d .nil 0 a.tail z r (by omega) (fun h => by omega) t1) (fun y b hb e => ?_) (fun y l1 t c e1 e2 hc => ?_)
      · exact loc_ex f f' 3 0 d _ _ b z r (by omega) (fun h => by omega) (ex_ends _ _ _ _ _ _ _ _ _ (fun h => by omega) t1 e).1
      · have := (ex_ends _ _ _ _ _ _ _ _ _ (fun h => by omega) (ex_ends _ _ _ _ _ _ _ _ _ (fun h => by omega) t1 e1).1 e2).2.1
        omega
    · exact loc_ok _ _
  | f + 1, f' + 1, 4, lv, d, x, p, a, z, r, hf, hv, he => by
    intro t c h hc
    have ha := ne_of_len (ex_ends _ _ _ _ _ _ _ _ _ hv he h).2.1 hc
    rw [exV] at h ⊢
    revert t c
    have h5 : ∀ a : List Tok, Ends (a ++ z) → LocAt z r (exV f 5 0 d .nil 0 (a ++ z)) (exV f' 5 0 d .nil 0 (a ++ r)) := fun a ha => loc_ex f f' 5 0 d .nil 0 a z r (by omega) (fun h => by omega) ha
    rw [app_hd ha z r, app_tail ha z, app_tail ha r]
    split
    · exact loc_b (loc_num ha) (fun y b hb e => loc_ok _ _) (fun y l1 t c e1 e2 hc => by obtain ⟨_, rfl⟩ := ok_eq e2; exact hc)
    split
    · rename_i hk2 hk
      have t1 := (he.tail (he.kind (by rw [app_hd ha z r]; omega))).1
      rw [app_tail ha z] at t1
      refine loc_b (loc_name ha) (fun nm b hb e => ?_) (fun y l1 t c e1 e2 hc => ?_)
      · have eb : Ends (b ++ z) := (name_tail e he).1
        rw [app_hd hb z r, app_tail hb z, app_tail hb r]
        split
        · rename_i h40
          have s1 := (eb.tail (by rw [app_hd hb z r, h40]; simp)).1
          rw [app_tail hb z] at s1
          by_cases hb2 : b.tail = []
          · intro t c h hc
            exfalso
            rw [hb2] at h s1
            have hz : ([] ++ z : List Tok) = z := rfl
            rw [hz] at h s1
            split at h
            · obtain ⟨_, rfl⟩ := ok_eq h
              have : z.tail.length ≤ z.length := by cases z <;> simp
              omega
            · obtain ⟨gg, l2, h3, h4⟩ := bnd_ok h
              obtain ⟨_, rfl⟩ := ok_eq h4
              have := (ex_ends _ _ _ _ _ _ _ _ _ (fun h => by omega) s1 h3).2.1
              omega
          · rw [app_hd hb2 z r, app_tail hb2 z, app_tail hb2 r]
            split
            · exact loc_ok _ _
            · exact loc_b (loc_ex f f' 7 0 d ce 0 b.tail z r (by omega) (fun h => by omega) s1) (fun y b hb e => loc_ok _ _) (fun y l1 t c e1 e2 hc => by obtain ⟨_, rfl⟩ := ok_eq e2; exact hc)
        · exact loc_ok _ _
      · have e0 := name_tail e1 he
        split at e2
        · rename_i h40
          have s1 := e0.1.tail (by rw [h40]; simp)
          split at e2
          · obtain ⟨_, rfl⟩ := ok_eq e2
            have : l1.tail.tail.length ≤ l1.tail.length := by cases l1.tail <;> simp
            omega
          · obtain ⟨gg, l2, h3, h4⟩ := bnd_ok e2
            obtain ⟨_, rfl⟩ := ok_eq h4
            have := (ex_ends _ _ _ _ _ _ _ _ _ (fun h => by omega) s1.1 h3).2.1
            omega
        · obtain ⟨_, rfl⟩ := ok_eq e2
          exact hc
    split
    · rename_i hn
      have t1 := (he.tail (by rw [app_hd ha z r, hn]; simp)).1
      rw [app_tail ha z] at t1
      exact loc_b (h5 a.tail t1) (fun y b hb e => loc_ok _ _) (fun y l1 t c e1 e2 hc => by obtain ⟨_, rfl⟩ := ok_eq e2; exact hc)
    split
    · rename_i hn
      have t1 := (he.tail (by rw [app_hd ha z r, hn]; simp)).1
      rw [app_tail ha z] at t1
      exact loc_b (h5 a.tail t1) (fun y b hb e => loc_ok _ _) (fun y l1 t c e1 e2 hc => by obtain ⟨_, rfl⟩ := ok_eq e2; exact hc)
    split
    · rename_i hn
      have t1 := (he.tail (by rw [app_hd ha z r, hn]; simp)).1
      rw [app_tail ha z] at t1
      by_cases ha2 : a.tail = []
      · intro t c h hc
        exfalso
        rw [ha2] at h
        have hz : ([] ++ z : List Tok) = z := rfl
        rw [hz] at h
        obtain ⟨_, l1, h1, h⟩ := bnd_ok h
        obtain ⟨_, l2, h2, h⟩ := bnd_ok h
        obtain ⟨_, rfl⟩ := ok_eq h
        have := len_need h1
        have := len_need h2
        omega
      · refine loc_b (loc_need _ ha2) (fun _ b hb e => ?_) (fun y l1 t c e1 e2 hc => ?_)
        · exact loc_b (loc_need _ hb) (fun _ b hb e => loc_ok _ _) (fun y l1 t c e1 e2 hc => by obtain ⟨_, rfl⟩ := ok_eq e2; exact hc)
        · obtain ⟨_, l2, h2, h⟩ := bnd_ok e2
          obtain ⟨_, rfl⟩ := ok_eq h
          have := len_need h2
          omega
    · exact h5 a he
  | f + 1, f' + 1, 5, lv, d, x, p, a, z, r, hf, hv, he => by
    intro t c h hc
    have ha := ne_of_len (ex_ends _ _ _ _ _ _ _ _ _ hv he h).2.1 hc
    rw [exV] at h ⊢
    revert t c
    refine loc_b (loc_need _ ha) (fun _ b hb e => ?_) (fun y l1 t c e1 e2 hc => ?_)
    · have eb := (need_tail e (by decide) he).1
      refine loc_b (loc_ex f f' 0 1 (d + 1) .nil 0 b z r (by omega) (fun _ => by omega) eb) (fun y b2 hb2 e2 => ?_) (fun y l1 t c e1 e2 hc => ?_)
      · exact loc_b (loc_need _ hb2) (fun _ b hb e => loc_ok _ _) (fun y l1 t c e1 e2 hc => by obtain ⟨_, rfl⟩ := ok_eq e2; exact hc)
      · obtain ⟨_, l2, h2, h⟩ := bnd_ok e2
        obtain ⟨_, rfl⟩ := ok_eq h
        have := len_need h2
        omega
    · have eb := (need_tail e1 (by decide) he).1
      obtain ⟨y2, l2, h2, h⟩ := bnd_ok e2
      have := (ex_ends _ _ _ _ _ _ _ _ _ (fun _ => by omega) eb h2).2.1
      obtain ⟨_, l3, h3, h⟩ := bnd_ok h
      obtain ⟨_, rfl⟩ := ok_eq h
      have := len_need h3
      omega
  | f + 1, f' + 1, 6, lv, d, x, p, a, z, r, hf, hv, he => by
    rw [exV, exV]
    refine loc_b (loc_ex f f' 0 1 (d + 1) .nil 0 a z r (by omega) (fun _ => by omega) he) (fun y b2 hb2 e2 => ?_) (fun y l1 t c e1 e2 hc => ?_)
    · exact loc_b (loc_need _ hb2) (fun _ b hb e => loc_ok _ _) (fun y l1 t c e1 e2 hc => by obtain ⟨_, rfl⟩ := ok_eq e2; exact hc)
    · obtain ⟨_, l2, h2, h⟩ := bnd_ok e2
      obtain ⟨_, rfl⟩ := ok_eq h
      have := len_need h2
      omega
  | f + 1, f' + 1, 7, lv, d, x, p, a, z, r, hf, hv, he => by
    rw [exV, exV]
    refine loc_b (loc_ex f f' 0 1 (d + 1) .nil 0 a z r (by omega) (fun _ => by omega) he) (fun y b hb e => ?_) (fun y l1 t c e1 e2 hc => ?_)
    · have eb := (ex_ends _ _ _ _ _ _ _ _ _ (fun _ => by omega) he e).1
      rw [app_hd hb z r, app_tail hb z, app_tail hb r]
      split
      · rename_i hn
        have s1 := (eb.tail (by rw [app_hd hb z r, hn]; simp)).1
        rw [app_tail hb z] at s1
        exact loc_b (loc_ex f f' 7 0 d ce 0 b.tail z r (by omega) (fun h => by omega) s1) (fun y b hb e => loc_ok _ _) (fun y l1 t c e1 e2 hc => by obtain ⟨_, rfl⟩ := ok_eq e2; exact hc)
      · exact loc_b (loc_need _ hb) (fun _ b hb e => loc_ok _ _) (fun y l1 t c e1 e2 hc => by obtain ⟨_, rfl⟩ := ok_eq e2; exact hc)
    · have eb := (ex_ends _ _ _ _ _ _ _ _ _ (fun _ => by omega) he e1).1
      split at e2
      · rename_i hn
        have s1 := eb.tail (by rw [hn]; simp)
        obtain ⟨gg, l2, h3, h4⟩ := bnd_ok e2
        obtain ⟨_, rfl⟩ := ok_eq h4
        have := (ex_ends _ _ _ _ _ _ _ _ _ (fun h => by omega) s1.1 h3).2.1
        omega
      · obtain ⟨_, l2, h2, h⟩ := bnd_ok e2
        obtain ⟨_, rfl⟩ := ok_eq h
        have := len_need h2
        omega
  | f + 1, f' + 1, g + 8, lv, d, x, p, a, z, r, hf, hv, he => by intro t c h; simp [exV] at h
end Go.Proofs.YtpakgaegckkmnaaGreatDoor

namespace Go.Proofs.YtpakgaegckkmnaaGreatDoor
set_option linter.unusedVariables false
set_option linter.unusedSimpArgs false
open Go Go.RowKit

/-- As LocAt, where all ahead of z may be read. -/
def LocZ {α : Type} (z r : List Tok) (x x' : R α) : Prop := ∀ t c, x = .ok (t, c) → z.length ≤ c.length → ∃ b, c = b ++ z ∧ x' = .ok (t, b ++ r)
theorem locZ_b {α β : Type} {z r : List Tok} {x x' : R α} {k k' : α → List Tok → R β} (h1 : LocAt z r x x') (h2 : ∀ y b, b ≠ [] → x = .ok (y, b ++ z) → LocZ z r (k y (b ++ z)) (k' y (b ++ r))) (h3 : ∀ y l1 t c, x = .ok (y, l1) → k y l1 = .ok (t, c) → z.length ≤ c.length → z.length < l1.length) : LocZ z r (bnd x k) (bnd x' k') := by
  intro t c h hc
  obtain ⟨y, l1, e1, e2⟩ := bnd_ok h
  obtain ⟨b, hb, rfl, e3⟩ := h1 y l1 e1 (h3 y l1 t c e1 e2 hc)
  obtain ⟨b', rfl, e4⟩ := h2 y b hb e1 t c e2 hc
  refine ⟨b', rfl, ?_⟩
  rw [e3]
  exact e4
theorem LocZ.strict {α : Type} {z r : List Tok} {x x' : R α} (h : LocZ z r x x') : LocAt z r x x' := by
  intro t c e hc
  obtain ⟨b, rfl, e2⟩ := h t c e (by omega)
  refine ⟨b, ?_, rfl, e2⟩
  intro e
  rw [e] at hc
  simp at hc
theorem locZ_ok {α : Type} {z r : List Tok} (t : α) (b : List Tok) : LocZ z r (.ok (t, b ++ z) : R α) (.ok (t, b ++ r)) := by
  intro t' c h hc
  injection h with h
  injection h with h1 h2
  subst h1
  subst h2
  exact ⟨b, rfl, rfl⟩
theorem locZ_tailb {α β : Type} {z r : List Tok} {x x' : R α} {k : α → β} (h1 : LocZ z r x x') : LocZ z r (bnd x fun y l => .ok (k y, l)) (bnd x' fun y l => .ok (k y, l)) := by
  intro t c h hc
  obtain ⟨y, l1, e1, e2⟩ := bnd_ok h
  injection e2 with e2
  injection e2 with e3 e4
  subst e3
  subst e4
  obtain ⟨b, rfl, e5⟩ := h1 y l1 e1 hc
  exact ⟨b, rfl, by rw [e5]; rfl⟩
theorem loc_expr {a z r : List Tok} (hr : z.length ≤ r.length) (he : Ends (a ++ z)) : LocAt z r (exprV (a ++ z)) (exprV (a ++ r)) := loc_ex _ _ 0 1 0 .nil 0 a z r (by simp [ef]; omega) (fun _ => by omega) he
theorem loc_held {a z r : List Tok} (hr : z.length ≤ r.length) (he : Ends (a ++ z)) : LocAt z r (heldV (a ++ z)) (heldV (a ++ r)) := loc_ex _ _ 5 0 0 .nil 0 a z r (by simp [ef]; omega) (fun h => by omega) he
theorem loc_idx {a z r : List Tok} (hr : z.length ≤ r.length) (he : Ends (a ++ z)) : LocAt z r (idxV (a ++ z)) (idxV (a ++ r)) := loc_ex _ _ 6 0 0 .nil 0 a z r (by simp [ef]; omega) (fun h => by omega) he
theorem loc_args {a z r : List Tok} (hr : z.length ≤ r.length) (he : Ends (a ++ z)) : LocAt z r (argsV (a ++ z)) (argsV (a ++ r)) := by
  intro t c h hc
  have ha := ne_of_len (Nat.le_of_lt (argV_tail h he).2) hc
  unfold argsV argV at h ⊢
  revert t c
  rw [app_hd ha z r, app_tail ha z, app_tail ha r]
  split
  · exact loc_ok _ _
  · exact loc_ex _ _ 7 0 0 ce 0 a z r (by simp [ef]; omega) (fun h => by omega) he
theorem loc_lastok {α : Type} {z r : List Tok} {x x' : R α} {k : α → Tr} (h1 : LocAt z r x x') : LocAt z r (bnd x fun y l => .ok (k y, l)) (bnd x' fun y l => .ok (k y, l)) :=
  loc_b h1 (fun y b hb e => loc_ok _ _) (fun y l1 t c e1 e2 hc => by obtain ⟨_, rfl⟩ := ok_eq e2; exact hc)
theorem loc_named {p : Nat} {a z r : List Tok} (hr : z.length ≤ r.length) (he : Ends (a ++ z)) : LocAt z r (namedV p (a ++ z)) (namedV p (a ++ r)) := by
  intro t c h hc
  have ha := ne_of_len (Nat.le_of_lt (named_tail h he).2) hc
  unfold namedV at h ⊢
  revert t c
  refine loc_b (loc_name ha) (fun nm b hb e => ?_) (fun y l1 t c e1 e2 hc => ?_)
  · have eb := (name_tail e he).1
    rw [app_hd hb z r, app_tail hb z, app_tail hb r]
    split
    · rename_i h40
      have s1 := (eb.tail (by rw [app_hd hb z r, h40]; simp)).1
      rw [app_tail hb z] at s1
      exact loc_lastok (loc_args hr s1)
    split
    · rename_i h91
      have s1 := (eb.tail (by rw [app_hd hb z r, h91]; simp)).1
      rw [app_tail hb z] at s1
      refine loc_b (loc_idx hr s1) (fun i b2 hb2 e2 => ?_) (fun y l1 t c e1 e2 hc => ?_)
      · have eb2 := (idx_tail e2 s1).1
        refine loc_b (loc_need _ hb2) (fun _ b3 hb3 e3 => ?_) (fun y l1 t c e1 e2 hc => ?_)
        · exact loc_lastok (loc_expr hr (need_tail e3 (by decide) eb2).1)
        · obtain ⟨v, l4, h4, h⟩ := bnd_ok e2
          obtain ⟨_, rfl⟩ := ok_eq h
          have := (expr_tail h4 (need_tail e1 (by decide) eb2).1).2
          omega
      · have x1 := (idx_tail e1 s1).1
        obtain ⟨_, l3, h3, h⟩ := bnd_ok e2
        obtain ⟨v, l4, h4, h⟩ := bnd_ok h
        obtain ⟨_, rfl⟩ := ok_eq h
        have x2 := need_tail h3 (by decide) x1
        have := (expr_tail h4 x2.1).2
        omega
    · refine loc_b (loc_need _ hb) (fun _ b3 hb3 e3 => ?_) (fun y l1 t c e1 e2 hc => ?_)
      · exact loc_lastok (loc_expr hr (need_tail e3 (by decide) eb).1)
      · obtain ⟨v, l4, h4, h⟩ := bnd_ok e2
        obtain ⟨_, rfl⟩ := ok_eq h
        have := (expr_tail h4 (need_tail e1 (by decide) eb).1).2
        omega
  · have x1 := (name_tail e1 he).1
    split at e2
    · rename_i h40
      obtain ⟨e3, s3⟩ := tok_tail h40 (by decide) x1
      obtain ⟨g, l2, h2, h⟩ := bnd_ok e2
      have := (argV_tail h2 e3).2
      obtain ⟨_, rfl⟩ := ok_eq h
      omega
    split at e2
    · rename_i h91
      obtain ⟨e3, s3⟩ := tok_tail h91 (by decide) x1
      obtain ⟨g, l2, h2, h⟩ := bnd_ok e2
      have x2 := idx_tail h2 e3
      obtain ⟨_, l3, h3, h⟩ := bnd_ok h
      have x3 := need_tail h3 (by decide) x2.1
      obtain ⟨v, l4, h4, h⟩ := bnd_ok h
      have := (expr_tail h4 x3.1).2
      obtain ⟨_, rfl⟩ := ok_eq h
      omega
    · obtain ⟨_, l3, h3, h⟩ := bnd_ok e2
      have x3 := need_tail h3 (by decide) x1
      obtain ⟨v, l4, h4, h⟩ := bnd_ok h
      have := (expr_tail h4 x3.1).2
      obtain ⟨_, rfl⟩ := ok_eq h
      omega
theorem ne_of_lt {a z c : List Tok} (h1 : c.length < (a ++ z).length) (h2 : z.length ≤ c.length) : a ≠ [] := by
  intro e
  rw [e] at h1
  simp at h1
  omega
/-- A semicolon behind. -/
theorem loc_semi {α : Type} {z r : List Tok} {x x' : R α} {k : α → Tr} (h1 : LocAt z r x x') (hs : ∀ y l1, x = .ok (y, l1) → Ends l1) : LocAt z r (bnd x fun y l => bnd (needV [59] l) fun _ l2 => .ok (k y, l2)) (bnd x' fun y l => bnd (needV [59] l) fun _ l2 => .ok (k y, l2)) :=
  loc_b h1 (fun y b hb e => loc_lastok (k := fun _ => k y) (loc_need _ hb)) (fun y l1 t c e1 e2 hc => by
    obtain ⟨_, l2, h2, h⟩ := bnd_ok e2
    obtain ⟨_, rfl⟩ := ok_eq h
    have := len_need h2
    omega)
theorem len_semi {α : Type} {l : List Tok} {k : Tr} {t : Tr} {c : List Tok} (h : (bnd (needV [59] l) fun _ l2 => (.ok (k, l2) : R Tr)) = .ok (t, c)) : c.length ≤ l.length := by
  obtain ⟨_, l2, h2, h⟩ := bnd_ok h
  obtain ⟨_, rfl⟩ := ok_eq h
  exact len_need h2
end Go.Proofs.YtpakgaegckkmnaaGreatDoor

namespace Go.Proofs.YtpakgaegckkmnaaGreatDoor
set_option linter.unusedVariables false
set_option linter.unusedSimpArgs false
open Go Go.RowKit

theorem loc_need' {z r : List Tok} (x : By) (a : List Tok) : LocAt z r (needV x (a ++ z)) (needV x (a ++ r)) := by
  by_cases ha : a = []
  · subst ha
    intro t c h hc
    have := len_need h
    have e : ([] ++ z : List Tok) = z := rfl
    rw [e] at this
    omega
  · exact loc_need x ha
theorem loc_name' {z r : List Tok} (a : List Tok) : LocAt z r (nameVv (a ++ z)) (nameVv (a ++ r)) := by
  by_cases ha : a = []
  · subst ha
    intro t c h hc
    obtain ⟨_, _, _, rfl⟩ := name_ok h
    have e : ([] ++ z : List Tok) = z := rfl
    rw [e] at hc
    have : z.tail.length ≤ z.length := by cases z <;> simp
    omega
  · exact loc_name ha
theorem len_name {l l1 : List Tok} {nm : By} (h : nameVv l = .ok (nm, l1)) : l1.length ≤ l.length := by
  obtain ⟨_, _, _, rfl⟩ := name_ok h
  cases l <;> simp
theorem loc_st : ∀ (f f' g d : Nat) (a z r : List Tok), f ≤ f' → z.length ≤ r.length → Ends (a ++ z) → (g = 2 → LocAt z r (stV f 2 d (a ++ z)) (stV f' 2 d (a ++ r))) ∧ (g ≠ 2 → LocZ z r (stV f g d (a ++ z)) (stV f' g d (a ++ r)))
  | 0, _, _, _, _, _, _, _, _, _ => ⟨fun _ => by intro t c h; simp [stV] at h, fun _ => by intro t c h; simp [stV] at h⟩
  | f + 1, 0, _, _, _, _, _, hf, _, _ => by omega
  | f + 1, f' + 1, 0, d, a, z, r, hf, hr, he => by
    refine ⟨fun h => by omega, fun _ => ?_⟩
    intro t c h hc
    have ha := ne_of_lt (st_ends _ _ _ _ _ _ he h).2 hc
    rw [stV] at h ⊢
    revert t c
    refine locZ_b (loc_bound d ha) (fun _ _ _ _ => ?_) (fun y l1 t c e1 e2 hc => ?_)
    · refine locZ_b (loc_need _ ha) (fun _ b hb e => ?_) (fun y l1 t c e1 e2 hc => ?_)
      · exact (loc_st f f' 1 d b z r (by omega) hr (need_tail e (by decide) he).1).2 (by omega)
      · have := (st_ends _ _ _ _ _ _ (need_tail e1 (by decide) he).1 e2).2
        omega
    · unfold boundV at e1
      split at e1
      · cases e1
      · injection e1 with e1
        injection e1 with _ e1
        subst e1
        cases a with
        | nil => exact absurd rfl ha
        | cons x a => simp; omega
  | f + 1, f' + 1, 1, d, a, z, r, hf, hr, he => by
    refine ⟨fun h => by omega, fun _ => ?_⟩
    intro t c h hc
    have ha := ne_of_lt (st_ends _ _ _ _ _ _ he h).2 hc
    rw [stV] at h ⊢
    revert t c
    rw [app_hd ha z r, app_tail ha z, app_tail ha r]
    split
    · exact locZ_ok _ _
    · refine locZ_b ((loc_st f f' 2 (d + 1) a z r (by omega) hr he).1 rfl) (fun t b hb e => ?_) (fun y l1 t c e1 e2 hc => ?_)
      · exact locZ_tailb ((loc_st f f' 1 d b z r (by omega) hr (st_ends _ _ _ _ _ _ he e).1).2 (by omega))
      · obtain ⟨g, l2, h2, h⟩ := bnd_ok e2
        obtain ⟨_, rfl⟩ := ok_eq h
        have := (st_ends _ _ _ _ _ _ (st_ends _ _ _ _ _ _ he e1).1 h2).2
        omega
  | f + 1, f' + 1, 2, d, a, z, r, hf, hr, he => by
    refine ⟨fun _ => ?_, fun h => absurd rfl h⟩
    intro t c h hc
    have ha := ne_of_lt (st_ends _ _ _ _ _ _ he h).2 (by omega)
    rw [stV] at h ⊢
    revert t c
    have hB : ∀ b : List Tok, Ends (b ++ z) → LocZ z r (stV f 0 d (b ++ z)) (stV f' 0 d (b ++ r)) := fun b hb => (loc_st f f' 0 d b z r (by omega) hr hb).2 (by omega)
    rw [app_hd ha z r, app_tail ha z, app_tail ha r]
    split
    · rename_i hk
      exact loc_semi (k := fun t => t) (loc_named hr he) (fun y l1 e => (named_tail e he).1)
    split
    · rename_i hn
      have t1 := (he.tail (by rw [app_hd ha z r, hn]; simp)).1
      rw [app_tail ha z] at t1
      refine loc_b (loc_name' a.tail) (fun nm b hb e => ?_) (fun y l1 t c e1 e2 hc => ?_)
      · have eb := (name_tail e t1).1
        refine loc_b (loc_need' _ b) (fun _ b2 hb2 e2 => ?_) (fun y l1 t c e1 e2 hc => ?_)
        · have eb2 := (need_tail e2 (by decide) eb).1
          exact loc_semi (loc_expr hr eb2) (fun y l1 e => (expr_tail e eb2).1)
        · obtain ⟨v, l3, h3, h⟩ := bnd_ok e2
          have := (expr_tail h3 (need_tail e1 (by decide) eb).1).2
          have := len_semi (α := Unit) h
          omega
      · have x1 := name_tail e1 t1
        obtain ⟨_, l2, h2, h⟩ := bnd_ok e2
        have x2 := need_tail h2 (by decide) x1.1
        obtain ⟨v, l3, h3, h⟩ := bnd_ok h
        have := (expr_tail h3 x2.1).2
        have := len_semi (α := Unit) h
        omega
    split
    · rename_i hn
      have t1 := (he.tail (by rw [app_hd ha z r, hn]; simp)).1
      rw [app_tail ha z] at t1
      exact loc_semi (loc_expr hr t1) (fun y l1 e => (expr_tail e t1).1)
    split
    · rename_i hn
      have t1 := (he.tail (by rw [app_hd ha z r, hn]; simp)).1
      rw [app_tail ha z] at t1
      exact loc_semi (loc_expr hr t1) (fun y l1 e => (expr_tail e t1).1)
    split
    · rename_i hn
      have t1 := (he.tail (by rw [app_hd ha z r, hn]; simp)).1
      rw [app_tail ha z] at t1
      refine loc_b (loc_held hr t1) (fun v b hb e => ?_) (fun y l1 t c e1 e2 hc => ?_)
      · have eb := (held_tail e t1).1
        refine loc_b (hB b eb).strict (fun th b2 hb2 e2 => ?_) (fun y l1 t c e1 e2 hc => ?_)
        · have eb2 := (st_ends _ _ _ _ _ _ eb e2).1
          rw [app_hd hb2 z r, app_tail hb2 z, app_tail hb2 r]
          split
          · rename_i h5
            have s1 := (eb2.tail (by rw [app_hd hb2 z r, h5]; simp)).1
            rw [app_tail hb2 z] at s1
            exact loc_lastok (hB b2.tail s1).strict
          · exact loc_ok _ _
        · have eb2 := (st_ends _ _ _ _ _ _ eb e1).1
          split at e2
          · rename_i h5
            obtain ⟨x3, s3⟩ := tok_tail h5 (by decide) eb2
            obtain ⟨el, l6, h7, h⟩ := bnd_ok e2
            obtain ⟨_, rfl⟩ := ok_eq h
            have := (st_ends _ _ _ _ _ _ x3 h7).2
            omega
          · obtain ⟨_, rfl⟩ := ok_eq e2
            exact hc
      · have x1 := held_tail e1 t1
        obtain ⟨th, l4, h4, h⟩ := bnd_ok e2
        have x2 := st_ends _ _ _ _ _ _ x1.1 h4
        split at h
        · rename_i h5
          obtain ⟨x3, s3⟩ := tok_tail h5 (by decide) x2.1
          obtain ⟨el, l6, h7, h⟩ := bnd_ok h
          obtain ⟨_, rfl⟩ := ok_eq h
          have := (st_ends _ _ _ _ _ _ x3 h7).2
          omega
        · obtain ⟨_, rfl⟩ := ok_eq h
          omega
    split
    · rename_i hn
      have t1 := (he.tail (by rw [app_hd ha z r, hn]; simp)).1
      rw [app_tail ha z] at t1
      refine loc_b (loc_held hr t1) (fun v b hb e => ?_) (fun y l1 t c e1 e2 hc => ?_)
      · exact loc_lastok (hB b (held_tail e t1).1).strict
      · have x1 := held_tail e1 t1
        obtain ⟨th, l4, h4, h⟩ := bnd_ok e2
        have x2 := st_ends _ _ _ _ _ _ x1.1 h4
        obtain ⟨_, rfl⟩ := ok_eq h
        omega
    · intro t c h; cases h
  | f + 1, f' + 1, g + 3, d, a, z, r, hf, hr, he => ⟨fun h => by omega, fun _ => by intro t c h; simp [stV] at h⟩
theorem loc_block {d : Nat} {a z r : List Tok} (hr : z.length ≤ r.length) (he : Ends (a ++ z)) : LocZ z r (blockV d (a ++ z)) (blockV d (a ++ r)) := (loc_st _ _ 0 d a z r (by simp; omega) hr he).2 (by omega)
theorem loc_par {a z r : List Tok} (he : Ends (a ++ z)) : LocAt z r (parV (a ++ z)) (parV (a ++ r)) := by
  unfold parV
  refine loc_b (loc_name' a) (fun nm b hb e => ?_) (fun y l1 t c e1 e2 hc => ?_)
  · have eb := (name_tail e he).1
    refine loc_b (loc_need' _ b) (fun _ b2 hb2 e2 => ?_) (fun y l1 t c e1 e2 hc => ?_)
    · rw [app_hd hb2 z r, app_tail hb2 z, app_tail hb2 r]
      split
      · exact loc_ok _ _
      · exact loc_lastok (k := fun _ => pr nm 1) (loc_need' _ b2)
    · split at e2
      · obtain ⟨_, rfl⟩ := ok_eq e2
        have : l1.tail.length ≤ l1.length := by cases l1 <;> simp
        omega
      · obtain ⟨_, l3, h3, h⟩ := bnd_ok e2
        obtain ⟨_, rfl⟩ := ok_eq h
        have := len_need h3
        omega
  · obtain ⟨_, l2, h2, h⟩ := bnd_ok e2
    have := len_need h2
    split at h
    · obtain ⟨_, rfl⟩ := ok_eq h
      have : l2.tail.length ≤ l2.length := by cases l2 <;> simp
      omega
    · obtain ⟨_, l3, h3, h⟩ := bnd_ok h
      obtain ⟨_, rfl⟩ := ok_eq h
      have := len_need h3
      omega
theorem loc_parl : ∀ (f f' : Nat) (a z r : List Tok), f ≤ f' → Ends (a ++ z) → LocAt z r (parlV f (a ++ z)) (parlV f' (a ++ r))
  | 0, _, _, _, _, _, _ => by intro t c h; simp [parlV] at h
  | f + 1, 0, _, _, _, hf, _ => by omega
  | f + 1, f' + 1, a, z, r, hf, he => by
    rw [parlV, parlV]
    refine loc_b (loc_par he) (fun x b hb e => ?_) (fun y l1 t c e1 e2 hc => ?_)
    · have eb := (par_tail e he).1
      rw [app_hd hb z r, app_tail hb z, app_tail hb r]
      split
      · rename_i h2
        have s1 := (eb.tail (by rw [app_hd hb z r, h2]; simp)).1
        rw [app_tail hb z] at s1
        exact loc_lastok (loc_parl f f' b.tail z r (by omega) s1)
      · exact loc_lastok (k := fun _ => cc x ce) (loc_need' _ b)
    · have eb := (par_tail e1 he).1
      split at e2
      · rename_i h2
        obtain ⟨x2, s2⟩ := tok_tail h2 (by decide) eb
        obtain ⟨g, l3, h3, h⟩ := bnd_ok e2
        obtain ⟨_, rfl⟩ := ok_eq h
        have := (parl_tail f h3 x2).2
        omega
      · obtain ⟨_, l3, h3, h⟩ := bnd_ok e2
        obtain ⟨_, rfl⟩ := ok_eq h
        have := len_need h3
        omega
theorem loc_pars {a z r : List Tok} (hr : z.length ≤ r.length) (he : Ends (a ++ z)) : LocAt z r (parsV (a ++ z)) (parsV (a ++ r)) := by
  intro t c h hc
  have ha := ne_of_lt (pars_tail h he).2 (by omega)
  unfold parsV at h ⊢
  revert t c
  rw [app_hd ha z r, app_tail ha z, app_tail ha r]
  split
  · exact loc_ok _ _
  · exact loc_parl _ _ a z r (by simp; omega) he
theorem loc_fn {a z r : List Tok} (hr : z.length ≤ r.length) (he : Ends (a ++ z)) : LocZ z r (fnV (a ++ z)) (fnV (a ++ r)) := by
  intro t c h hc
  have ha := ne_of_lt (fn_tail h he).2 hc
  unfold fnV at h ⊢
  revert t c
  rw [app_hd ha z r]
  refine locZ_b (loc_need _ ha) (fun _ b hb e => ?_) (fun y l1 t c e1 e2 hc => ?_)
  · have eb := (need_tail e (by decide) he).1
    refine locZ_b (loc_name' b) (fun nm b2 hb2 e2 => ?_) (fun y l1 t c e1 e2 hc => ?_)
    · have eb2 := (name_tail e2 eb).1
      refine locZ_b (loc_need' _ b2) (fun _ b3 hb3 e3 => ?_) (fun y l1 t c e1 e2 hc => ?_)
      · have eb3 := (need_tail e3 (by decide) eb2).1
        refine locZ_b (loc_pars hr eb3) (fun ps b4 hb4 e4 => ?_) (fun y l1 t c e1 e2 hc => ?_)
        · exact locZ_tailb (loc_block hr (pars_tail e4 eb3).1)
        · obtain ⟨bd, l5, h5, h⟩ := bnd_ok e2
          obtain ⟨_, rfl⟩ := ok_eq h
          have := (st_ends _ _ _ _ _ _ (pars_tail e1 eb3).1 h5).2
          omega
      · have x1 := (need_tail e1 (by decide) eb2).1
        obtain ⟨ps, l4, h4, h⟩ := bnd_ok e2
        have x2 := pars_tail h4 x1
        obtain ⟨bd, l5, h5, h⟩ := bnd_ok h
        obtain ⟨_, rfl⟩ := ok_eq h
        have := (st_ends _ _ _ _ _ _ x2.1 h5).2
        omega
    · have x0 := (name_tail e1 eb).1
      obtain ⟨_, l3, h3, h⟩ := bnd_ok e2
      have x1 := need_tail h3 (by decide) x0
      obtain ⟨ps, l4, h4, h⟩ := bnd_ok h
      have x2 := pars_tail h4 x1.1
      obtain ⟨bd, l5, h5, h⟩ := bnd_ok h
      obtain ⟨_, rfl⟩ := ok_eq h
      have := (st_ends _ _ _ _ _ _ x2.1 h5).2
      omega
  · have x00 := (need_tail e1 (by decide) he).1
    obtain ⟨nm, l2, h2, h⟩ := bnd_ok e2
    have x0 := name_tail h2 x00
    obtain ⟨_, l3, h3, h⟩ := bnd_ok h
    have x1 := need_tail h3 (by decide) x0.1
    obtain ⟨ps, l4, h4, h⟩ := bnd_ok h
    have x2 := pars_tail h4 x1.1
    obtain ⟨bd, l5, h5, h⟩ := bnd_ok h
    obtain ⟨_, rfl⟩ := ok_eq h
    have := (st_ends _ _ _ _ _ _ x2.1 h5).2
    omega
end Go.Proofs.YtpakgaegckkmnaaGreatDoor

namespace Go.Proofs.YtpakgaegckkmnaaGreatDoor
set_option linter.unusedVariables false
set_option linter.unusedSimpArgs false
open Go Go.RowKit

/-- A program read as the first, or behind others. -/
theorem prog_shift : ∀ (f f' k m : Nat) (l : List Tok) (t : Tr) (c : List Tok), f ≤ f' → m ≤ 12 → progV f k l = .ok (t, c) → ∃ ys, t = chain ys ∧ (m + ys.length ≤ 12 → progV f' m l = .ok (t, c)) ∧ (12 < m + ys.length → ∃ p, progV f' m l = .error (4, p))
  | 0, _, _, _, _, _, _, _, _, h => by simp [progV] at h
  | f + 1, 0, _, _, _, _, _, hf, _, _ => by omega
  | f + 1, f' + 1, k, m, l, t, c, hf, hm, h => by
    rw [progV] at h
    rw [progV]
    split at h
    · rename_i hk
      obtain ⟨rfl, rfl⟩ := ok_eq h
      exact ⟨[], rfl, fun _ => by rw [if_pos hk], fun h => by simp at h; omega⟩
    · rename_i hk
      split at h
      · cases h
      · obtain ⟨x, l1, h1, h⟩ := bnd_ok h
        obtain ⟨g, l2, h2, h⟩ := bnd_ok h
        obtain ⟨rfl, rfl⟩ := ok_eq h
        rw [if_neg hk]
        by_cases h12 : m = 12
        · obtain ⟨ys, rfl, _, _⟩ := prog_shift f f' (k + 1) m l1 g l2 (by omega) hm h2
          refine ⟨x :: ys, rfl, fun h => by simp at h; omega, fun _ => ⟨_, by rw [if_pos h12]⟩⟩
        · obtain ⟨ys, rfl, a, b⟩ := prog_shift f f' (k + 1) (m + 1) l1 g l2 (by omega) (by omega) h2
          refine ⟨x :: ys, rfl, fun h => ?_, fun h => ?_⟩
          · rw [if_neg h12, h1]
            show bnd (progV f' (m + 1) l1) _ = _
            rw [a (by simp at h; omega)]
            rfl
          · obtain ⟨p, hp⟩ := b (by simp at h; omega)
            refine ⟨p, ?_⟩
            rw [if_neg h12, h1]
            show bnd (progV f' (m + 1) l1) _ = _
            rw [hp]
            rfl
theorem ends_one {e : Tok} {c : List Tok} (h : Ends (c ++ [e])) : e.k = 3 ∧ ∀ x ∈ c, x.k ≠ 3 := by
  obtain ⟨a, e', h1, h2, h3, h4⟩ := h
  have := List.append_inj' h1 rfl
  obtain ⟨rfl, h6⟩ := this
  injection h6 with h6 _
  subst h6
  exact ⟨h2, fun x hx => (h4 x hx).1⟩
/-- Two programs' tokens. -/
theorem prog_join : ∀ (f n : Nat) (a : List Tok) (e : Tok) (lu : List Tok) (t : Tr) (c : List Tok), Ends (a ++ [e]) → 1 ≤ lu.length → progV f n (a ++ [e]) = .ok (t, c) → ∃ xs, t = chain xs ∧ ∀ F, (a ++ lu).length + 1 ≤ F → f ≤ F → ∃ F', lu.length + 1 ≤ F' ∧ progV F n (a ++ lu) = cat xs (progV F' (n + xs.length) lu)
  | 0, n, a, e, lu, t, c, he, hl, h => by simp [progV] at h
  | f + 1, n, a, e, lu, t, c, he, hl, h => by
    obtain ⟨hek, hak⟩ := ends_one he
    rw [progV] at h
    split at h
    · rename_i hk
      have ha : a = [] := by
        cases a with
        | nil => rfl
        | cons x a => exact absurd hk (hak x (by simp))
      subst ha
      obtain ⟨rfl, rfl⟩ := ok_eq h
      refine ⟨[], rfl, fun F hF _ => ⟨F, by simpa using hF, ?_⟩⟩
      show progV F n lu = cat [] (progV F n lu)
      rcases progV F n lu with e | ⟨g, l⟩ <;> rfl
    · rename_i hk
      split at h
      · cases h
      · rename_i h12
        obtain ⟨x, l1, h1, h⟩ := bnd_ok h
        have x1 := fn_tail h1 he
        obtain ⟨b, rfl, h1'⟩ := loc_fn (r := lu) (by simpa using hl) he x l1 h1 (by have := x1.1.pos; simpa using this)
        obtain ⟨g, l2, h2, h⟩ := bnd_ok h
        obtain ⟨rfl, rfl⟩ := ok_eq h
        obtain ⟨xs, rfl, q⟩ := prog_join f (n + 1) b e lu g l2 x1.1 hl h2
        refine ⟨x :: xs, rfl, fun F hF hF2 => ?_⟩
        obtain ⟨F, rfl⟩ : ∃ F', F = F' + 1 := ⟨F - 1, by omega⟩
        have hlen := x1.2
        simp only [List.length_append, List.length_cons, List.length_nil] at hlen hF
        obtain ⟨F', q1, q2⟩ := q F (by simp; omega) (by omega)
        refine ⟨F', q1, ?_⟩
        have ha : a ≠ [] := by
          intro ha
          subst ha
          exact hk hek
        rw [progV, ← app_hd ha [e] lu, if_neg hk, if_neg h12, h1']
        show bnd (progV F (n + 1) (b ++ lu)) _ = _
        rw [q2, show n + 1 + xs.length = n + (x :: xs).length by simp; omega]
        rcases progV F' (n + (x :: xs).length) lu with e | ⟨g, l⟩ <;> rfl

/-- Blanks and remarks, with a line feed and more behind. -/
theorem skip_app (u : By) : ∀ (b : Bool) (s : By), skipS b (s ++ 10 :: u) = if skipS b s = [] then skipS false u else skipS b s ++ 10 :: u
  | false, [] => by simp [skipS]
  | true, [] => by simp [skipS]
  | false, c :: s => by
    rw [List.cons_append, skipS, skipS]
    split
    · exact skip_app u false s
    · split
      · exact skip_app u true s
      · rw [if_neg (by simp)]
        rfl
  | true, c :: s => by
    rw [List.cons_append, skipS, skipS]
    split
    · exact skip_app u false s
    · exact skip_app u true s
theorem run_app (u set : By) (h : set.contains 10 = false) : ∀ s : By, runV (s ++ 10 :: u) set = runV s set
  | [] => by
    unfold runV
    rw [List.nil_append, List.takeWhile_cons, h]
    rfl
  | c :: s => by
    have ih := run_app u set h s
    unfold runV at ih ⊢
    rw [List.cons_append, List.takeWhile_cons, List.takeWhile_cons, ih]
theorem pre_app (u : By) : ∀ (m s : By), ¬ (10 : UInt8) ∈ m → m.isPrefixOf (s ++ 10 :: u) = m.isPrefixOf s
  | [], s, _ => by simp
  | x :: m, [], h => by
    have hx : ¬ x = 10 := fun e => h (by simp [e])
    simp [List.isPrefixOf, hx]
  | x :: m, c :: s, h => by
    have ih := pre_app u m s (fun e => h (by simp [e]))
    simp only [List.cons_append, List.isPrefixOf, ih]
theorem find_congr {α : Type} {p q : α → Bool} : ∀ (l : List α), (∀ x ∈ l, p x = q x) → l.find? p = l.find? q
  | [], _ => rfl
  | x :: l, h => by
    rw [List.find?_cons, List.find?_cons, h x (by simp), find_congr l (fun y hy => h y (by simp [hy]))]
theorem one_app (u s : By) : oneTok (s ++ 10 :: u) = oneTok s := by
  unfold oneTok
  rw [run_app u digs (by decide), run_app u (lets ++ digs) (by decide)]
  have : marksL.find? (·.isPrefixOf (s ++ 10 :: u)) = marksL.find? (·.isPrefixOf s) := by
    apply find_congr
    intro m hm
    have h10 : ∀ m ∈ marksL, ¬ (10 : UInt8) ∈ m := by decide
    exact pre_app u m s (h10 m hm)
  rw [this]
theorem pl_append (a b : List Tok) : pl (a ++ b) = pl a ++ pl b := by simp
/-- Tokens of a text, elsewhere and behind others. -/
theorem cut_shift (n N : Nat) : ∀ (f F : Nat) (rest : By) (l r L : List Tok), rest.length + 1 ≤ f → rest.length + 1 ≤ F → L.length + rest.length ≤ 1500 → cutV n f rest l = .ok r → ∃ a a', r = l ++ a ∧ cutV N F rest L = .ok (L ++ a') ∧ pl a' = pl a
  | 0, _, _, _, _, _, h1, _, _, _ => by omega
  | f + 1, 0, _, _, _, _, _, h2, _, _ => by omega
  | f + 1, F + 1, rest, l, r, L, h1, h2, h3, h => by
    rw [cutV] at h
    rw [cutV]
    split at h
    · rename_i hr
      injection h with h
      subst h
      exact ⟨[⟨3, [], n⟩], [⟨3, [], N⟩], rfl, by rw [if_pos hr], rfl⟩
    · rename_i hr
      split at h
      · cases h
      · rename_i k t ho
        split at h
        · cases h
        · have hp := one_pos ho
          have hs := skip_len false (rest.drop t.length)
          rw [List.length_drop] at hs
          obtain ⟨a, a', q1, q2, q3⟩ := cut_shift n N f F _ _ r (L ++ [⟨k, t, N - rest.length⟩]) (by omega) (by omega) (by simp; omega) h
          refine ⟨⟨k, t, n - rest.length⟩ :: a, ⟨k, t, N - rest.length⟩ :: a', by rw [q1]; simp, ?_, ?_⟩
          · rw [if_neg hr, if_neg (by have := hp.1; omega), q2]
            simp
          · show ph _ :: pl a' = ph _ :: pl a
            rw [q3]
            rfl
/-- Tokens of a text, with a line feed and a text behind. -/
theorem cut_join (u : By) (n N : Nat) : ∀ (f F : Nat) (rest : By) (l r L : List Tok), rest.length + 1 ≤ f → (rest ++ 10 :: u).length + 1 ≤ F → L.length + (rest ++ 10 :: u).length ≤ 1500 → cutV n f rest l = .ok r → ∃ a a' F', r = l ++ a ++ [⟨3, [], n⟩] ∧ pl a' = pl a ∧ (skipS false u).length + 1 ≤ F' ∧ L.length + a'.length + (skipS false u).length ≤ 1500 ∧ cutV N F (if rest = [] then skipS false u else rest ++ 10 :: u) L = cutV N F' (skipS false u) (L ++ a')
  | 0, _, _, _, _, _, h1, _, _, _ => by omega
  | f + 1, 0, _, _, _, _, _, h2, _, _ => by omega
  | f + 1, F + 1, rest, l, r, L, h1, h2, h3, h => by
    have hu := skip_len false u
    rw [cutV] at h
    split at h
    · rename_i hr
      injection h with h
      subst h
      subst hr
      simp at h2 h3
      exact ⟨[], [], F + 1, by simp, rfl, by omega, by simp; omega, by simp⟩
    · rename_i hr
      split at h
      · cases h
      · rename_i k t ho
        split at h
        · cases h
        · have hp := one_pos ho
          have hs := skip_len false (rest.drop t.length)
          rw [List.length_drop] at hs
          simp only [List.length_append, List.length_cons] at h2 h3
          obtain ⟨a, a', F', q1, q2, q3, q4, q5⟩ := cut_join u n N f F _ _ r (L ++ [⟨k, t, N - (rest ++ 10 :: u).length⟩]) (by omega) (by simp only [List.length_append, List.length_cons]; omega) (by simp only [List.length_append, List.length_cons, List.length_nil]; omega) h
          refine ⟨⟨k, t, n - rest.length⟩ :: a, ⟨k, t, N - (rest ++ 10 :: u).length⟩ :: a', F', by rw [q1]; simp, ?_, q3, by simp only [List.length_append, List.length_cons, List.length_nil] at q4 ⊢; omega, ?_⟩
          · show ph _ :: pl a' = ph _ :: pl a
            rw [q2]
            rfl
          · rw [if_neg hr, cutV, if_neg (by simp), one_app]
            simp only [ho]
            rw [if_neg (by omega), List.drop_append_of_le_length hp.2, skip_app, q5]
            simp
/-- Two texts with a line feed between them. -/
theorem tok_join {s u : By} {ls lu : List Tok} (hlen : s.length + u.length ≤ 1400) (h1 : tokV s = .ok ls) (h2 : tokV u = .ok lu) : ∃ a e lc, ls = a ++ [e] ∧ tokV (s ++ 10 :: u) = .ok lc ∧ pl lc = pl (a ++ lu) := by
  unfold tokV at h1 h2 ⊢
  have k1 := skip_len false s
  have k2 := skip_len false u
  obtain ⟨a, a', F', q1, q2, q3, q4, q5⟩ := cut_join u s.length (s ++ 10 :: u).length (s.length + 1) ((s ++ 10 :: u).length + 1) (skipS false s) [] ls [] (by omega) (by simp only [List.length_append, List.length_cons]; omega) (by simp only [List.length_append, List.length_cons, List.length_nil]; omega) h1
  obtain ⟨b, b', p1, p2, p3⟩ := cut_shift u.length (s ++ 10 :: u).length (u.length + 1) F' (skipS false u) [] lu ([] ++ a') (by omega) q3 (by simpa using q4) h2
  refine ⟨a, ⟨3, [], s.length⟩, [] ++ a' ++ b', by simpa using q1, ?_, ?_⟩
  · rw [skip_app, q5]
    exact p2
  · rw [p1, List.nil_append, List.nil_append, pl_append, pl_append, q2, p3]
end Go.Proofs.YtpakgaegckkmnaaGreatDoor

namespace Go.Proofs.YtpakgaegckkmnaaGreatDoor
set_option linter.unusedVariables false
set_option linter.unusedSimpArgs false
open Go Go.RowKit

theorem parse_parts {s : By} {t : Tr} (h : parseV s = .ok t) : ∃ l c, tokV s = .ok l ∧ progV (l.length + 1) 0 l = .ok (t, c) := by
  unfold parseV at h
  split at h
  · cases h
  · rename_i l hl
    split at h
    · cases h
    · rename_i t' l' hp
      injection h with h
      subst h
      exact ⟨l, l', hl, hp⟩
theorem chain_app (xs ys : List Tr) : xs.foldr cc (chain ys) = chain (xs ++ ys) := by
  induction xs with
  | nil => rfl
  | cons x xs ih => rw [List.foldr_cons, ih]; rfl
theorem eR_ok {x y : R Tr} {t : Tr} {c : List Tok} (h : eR er x = eR er y) (hy : y = .ok (t, c)) : ∃ t' c', x = .ok (t', c') ∧ er t' = er t := by
  subst hy
  rcases x with ⟨k, p⟩ | ⟨t', c'⟩
  · cases h
  · injection h with h
    injection h with h1 h2
    exact ⟨t', c', rfl, h1⟩
theorem eR_err {x y : R Tr} {k : Int} {p : Nat} (h : eR er x = eR er y) (hy : y = .error (k, p)) : ∃ p', x = .error (k, p') := by
  subst hy
  rcases x with ⟨k', p'⟩ | ⟨t', c'⟩
  · injection h with h
    injection h with h1 h2
    subst h1
    exact ⟨p', rfl⟩
  · cases h
theorem joins_plain {s u : By} (hlen : s.length + u.length ≤ 1400) {La Lb : List Fun} (ha : parseV s = .ok (chain (La.map Fun.tr))) (hb : parseV u = .ok (chain (Lb.map Fun.tr))) (ga : ∀ F ∈ La, GoodF F) (gb : ∀ F ∈ Lb, GoodF F) :
    (La.length + Lb.length ≤ 12 → ∃ Lc : List Fun, parseV (s ++ 10 :: u) = .ok (chain (Lc.map Fun.tr)) ∧ (∀ F ∈ Lc, GoodF F) ∧ prT Lc = prT La ++ prT Lb ∧ Lc.length ≤ 12 ∧ (prT Lc).length ≤ 150100) ∧
    (12 < La.length + Lb.length → ∃ p, parseV (s ++ 10 :: u) = .error (4, p)) := by
  obtain ⟨ls, c1, t1, p1⟩ := parse_parts ha
  obtain ⟨lu, c2, t2, p2⟩ := parse_parts hb
  obtain ⟨a, e, lc, rfl, t3, hpl⟩ := tok_join hlen t1 t2
  obtain ⟨e1, e1l⟩ := tok_ends t1 (by omega)
  obtain ⟨e2, e2l⟩ := tok_ends t2 (by omega)
  have hl2 := e2.pos
  obtain ⟨xs, hxs, q⟩ := prog_join _ 0 a e lu _ c1 e1 hl2 p1
  have hx := chain_inj hxs
  obtain ⟨F', q1, q2⟩ := q ((a ++ lu).length + 1) (Nat.le_refl _) (by simp; omega)
  have hlc : lc.length = (a ++ lu).length := by
    have := congrArg List.length hpl
    simpa using this
  have hnat : eR er (progV (lc.length + 1) 0 lc) = eR er (progV ((a ++ lu).length + 1) 0 (a ++ lu)) := by
    rw [← e_prog, ← e_prog, hpl, hlc]
  have hLa : La.length ≤ 12 := by
    obtain ⟨L, z1, _, _, z4⟩ := parse_good (by omega) ha
    have := trs_inj z1
    rw [this]
    exact z4
  have hxl : xs.length = La.length := by rw [← hx]; simp
  obtain ⟨ys, hys, r1, r2⟩ := prog_shift _ F' 0 (0 + xs.length) lu _ c2 q1 (by omega) p2
  have hy := chain_inj hys
  have hyl : ys.length = Lb.length := by rw [← hy]; simp
  constructor
  · intro h12
    have r3 := r1 (by omega)
    rw [r3] at q2
    have q3 : progV ((a ++ lu).length + 1) 0 (a ++ lu) = .ok (chain ((La ++ Lb).map Fun.tr), c2) := by
      rw [q2]
      show Except.ok (xs.foldr cc (chain (Lb.map Fun.tr)), c2) = _
      rw [chain_app, ← hx, List.map_append]
    obtain ⟨t', c', h3, h4⟩ := eR_ok hnat q3
    have hp : parseV (s ++ 10 :: u) = .ok t' := by
      unfold parseV
      rw [t3]
      show (match progV (lc.length + 1) 0 lc with | .error e => _ | .ok (t, _) => _) = _
      rw [h3]
    obtain ⟨Lc, z1, z2, z3, z4⟩ := parse_good (by simp; omega) hp
    subst z1
    rw [er_trs, er_trs] at h4
    have h5 := trs_inj h4
    refine ⟨Lc, hp, z2, ?_, z4, z3⟩
    have g : ∀ F ∈ La ++ Lb, GoodF F := fun F hF => (List.mem_append.1 hF).elim (ga F) (gb F)
    rw [← er_prT Lc z2, h5, er_prT _ g]
    simp [prT]
  · intro h12
    obtain ⟨p, r3⟩ := r2 (by omega)
    rw [r3] at q2
    obtain ⟨p', h3⟩ := eR_err (k := 4) (p := p) hnat q2
    refine ⟨p', ?_⟩
    unfold parseV
    rw [t3]
    show (match progV (lc.length + 1) 0 lc with | .error e => _ | .ok (t, _) => _) = _
    rw [h3]
end Go.Proofs.YtpakgaegckkmnaaGreatDoor

namespace Go.Proofs.YtpakgaegckkmnaaGreatDoor
set_option linter.unusedVariables false
set_option linter.unusedSimpArgs false
open Go Go.RowKit

def pTx : By := [102, 110, 32, 109, 97, 105, 110, 40, 41, 123, 112, 114, 105, 110, 116, 32, 49, 45, 40, 50, 45, 51, 41, 42, 45, 120, 91, 32, 48, 93, 59, 35, 110, 111, 10, 125]
def pOut : By := [102, 110, 32, 109, 97, 105, 110, 40, 41, 32, 123, 10, 32, 32, 112, 114, 105, 110, 116, 32, 49, 32, 45, 32, 40, 50, 32, 45, 32, 51, 41, 32, 42, 32, 45, 120, 91, 48, 93, 59, 10, 125, 10]
/-- A program's functions' first body, of what is told. -/
def bodyOf : Except (Int × Nat) Tr → Tr
  | .ok (.slice [.agg [_, _, _, b]] _) => b
  | _ => .nil
def L0 : List Fun := [⟨[109, 97, 105, 110], .i64, 0, [], bodyOf (parseV pTx)⟩]
theorem p_parse : parseV pTx = .ok (chain (L0.map Fun.tr)) := by kernel_rfl
theorem p_print : prT L0 = pOut := by kernel_rfl
theorem p_good : ∀ F ∈ L0, GoodF F := by
  obtain ⟨L, a, b, _, _⟩ := parse_good (s := pTx) (by decide) p_parse
  rw [trs_inj a]
  exact b
end Go.Proofs.YtpakgaegckkmnaaGreatDoor

namespace Go.Proofs.YtpakgaegckkmnaaGreatDoor
set_option linter.unusedVariables false
set_option linter.unusedSimpArgs false
open Go Go.RowKit

abbrev Everywhere : Nat → Prop := fun _ => True
/-- A program's functions lie at a value. -/
def Got (w : World) (v : Value) (L : List Fun) : Prop := ∃ (n : Nat) (cs : List Value), w.ownsRow 0 41 4 v n cs ∧ FnAt Everywhere w (chain (L.map Fun.tr)) cs
theorem Keeps.below {S : Nat → Prop} {w w' : World} (h : Below w.heap.size w w') : Keeps S w w' := fun b cs t _ _ hb => by
  have hl : b < w.heap.size := (Array.getElem?_eq_some_iff.1 hb).1
  rw [h.block b hl]
  exact hb
theorem Got.below {w w' : World} {v : Value} {L : List Fun} (h : Got w v L) (hb : Below w.heap.size w w') : Got w' v L := by
  obtain ⟨n, cs, h1, h2⟩ := h
  exact ⟨n, cs, (Keeps.below hb).row (by decide) h1 (S := Everywhere) (fun _ _ => trivial), FnAt.kept (Keeps.below hb) _ _ h2⟩
theorem EnvW.below {w w' : World} (h : EnvW 11 w) (hb : Below w.heap.size w w') : EnvW 11 w' := by
  have hlt := h.env.lt
  refine ⟨h.env.below hb, ?_, h.far, Nat.le_trans h.le hb.size⟩
  have hv := h.pow
  unfold Pw Lib.TabIs World.var? at *
  simp only [gPow, Option.bind_some] at hv ⊢
  rw [hb.block 4 (by omega)]
  exact hv
/-- Print of functions that lie at a value. -/
theorem print_got {w : World} {v : Value} {L : List Fun} (he : EnvW 11 w) (h : Got w v L) (hg : ∀ F ∈ L, GoodF F) (hl : (prT L).length ≤ 150100) (h12 : L.length ≤ 12) :
    Calls Tryz.prog 9 #[v] w fun e w' => e = .returned (.string ⟨(prT L).toArray⟩) ∧ Below w.heap.size w w' := by
  obtain ⟨n, cs, h1, h2⟩ := h
  exact (print_of he h1 (fun _ _ => trivial) h2 hg hl h12).2
/-- Parse of a text that is a program. -/
theorem parse_got {s : ByteArray} {w : World} {L : List Fun} (he : Env w) (hs : s.size ≤ 1000000) (h : parseV s.data.toList = .ok (chain (L.map Fun.tr))) :
    Calls Tryz.prog 8 #[.string s] w fun e w' => ∃ q c, e = .returned (.tuple #[.slice q L.length c, .nilIface]) ∧ Got w' (.slice q L.length c) L ∧ Below w.heap.size w w' := by
  refine (parse_any s w he hs).mono ?_
  intro e w' hp
  rw [h] at hp
  obtain ⟨⟨v, n, cs, rfl, hr, hx⟩, hb⟩ := hp
  obtain ⟨L', e1, e2, _⟩ := fns_open _ cs hx
  have := trs_inj e1
  subst this
  have hn : n = L.length := by have := hr.1; omega
  subst hn
  obtain ⟨q, c, rfl⟩ := own_slice hr
  exact ⟨q, c, rfl, ⟨L.length, cs, own_mono hr (Nat.zero_le _), FnAt.mono (fun _ _ _ => trivial) _ _ hx⟩, hb⟩
/-- Parse of a text that is none. -/
theorem parse_none {s : ByteArray} {w : World} {k : Int} {p : Nat} (he : Env w) (hs : s.size ≤ 1000000) (h : parseV s.data.toList = .error (k, p)) :
    Calls Tryz.prog 8 #[.string s] w fun e w' => ∃ a, e = .returned (.tuple #[.slice none 0 0, .iface 43 (.pointer (some ⟨a, 0, none⟩))]) ∧ w'.heap[a]? = some (.cells #[.int .i64 k, .int .i64 (p : Int)] 78) ∧ Below w.heap.size w w' := by
  refine (parse_any s w he hs).mono ?_
  intro e w' hp
  rw [h] at hp
  obtain ⟨⟨a, rfl, ha⟩, hb⟩ := hp
  exact ⟨a, rfl, ha, hb⟩
/-- Parse of any text. -/
theorem parse_some (s : ByteArray) (w : World) (he : Env w) (hs : s.size ≤ 1000000) :
    Calls Tryz.prog 8 #[.string s] w fun e w' => (∃ q n c x, e = .returned (.tuple #[.slice q n c, x])) ∧ Below w.heap.size w w' := by
  refine (parse_any s w he hs).mono ?_
  intro e w' hp
  cases h : parseV s.data.toList with
  | error e' =>
    rw [h] at hp
    obtain ⟨⟨a, rfl, ha⟩, hb⟩ := hp
    exact ⟨⟨_, _, _, _, rfl⟩, hb⟩
  | ok t =>
    rw [h] at hp
    obtain ⟨⟨v, n, cs, rfl, hr, hx⟩, hb⟩ := hp
    obtain ⟨q, c, rfl⟩ := own_slice hr
    exact ⟨⟨_, _, _, _, rfl⟩, hb⟩

set_option maxRecDepth 100000 in
set_option maxHeartbeats 2000000 in
theorem parsed_any (w : World) (he : EnvW 11 w) :
    Calls Tryz.prog 7 #[] w fun e w' => e = .returned (.bool true) ∧ Below w.heap.size w w' := by
  have HP : Hid (Calls Tryz.prog 8 #[.string ⟨#[102, 110, 32, 109, 97, 105, 110, 40, 41, 123, 112, 114, 105, 110, 116, 32, 49, 45, 40, 50, 45, 51, 41, 42, 45, 120, 91, 32, 48, 93, 59, 35, 110, 111, 10, 125]⟩] w fun e w' => ∃ q c, e = .returned (.tuple #[.slice q 1 c, .nilIface]) ∧ Got w' (.slice q 1 c) L0 ∧ Below w.heap.size w w') := parse_got (s := ⟨#[102, 110, 32, 109, 97, 105, 110, 40, 41, 123, 112, 114, 105, 110, 116, 32, 49, 45, 40, 50, 45, 51, 41, 42, 45, 120, 91, 32, 48, 93, 59, 35, 110, 111, 10, 125]⟩) (L := L0) he.env (by decide) p_parse
  have HQ : Hid (∀ w1 v, Below w.heap.size w w1 → Got w1 v L0 → Calls Tryz.prog 9 #[v] w1 fun e w' => e = .returned (.string ⟨#[102, 110, 32, 109, 97, 105, 110, 40, 41, 32, 123, 10, 32, 32, 112, 114, 105, 110, 116, 32, 49, 32, 45, 32, 40, 50, 32, 45, 32, 51, 41, 32, 42, 32, 45, 120, 91, 48, 93, 59, 10, 125, 10]⟩) ∧ Below w1.heap.size w1 w') := fun w1 v hb hg => by
    have := print_got (he.below hb) hg p_good (by rw [p_print]; decide) (by decide)
    rw [p_print] at this
    exact this
  clear he
  go_enter Tryz.func7, Tryz.ntmps7
  go_wp2_with (go_at_call 8; fail)
  refine HP.out.mono ?_
  rintro e w1 ⟨q, c, rfl, hg, hb⟩
  have HG : Hid (Got w1 (.slice q 1 c) L0) := hg
  have HB : Hid (Below w.heap.size w w1) := hb
  clear hg hb
  go_wp2_with (go_at_call 9; fail)
  refine (HQ.out _ _ HB.out HG.out).mono ?_
  rintro e w2 ⟨rfl, hb⟩
  have HB2 : Hid (Below w.heap.size w w2) := HB.out.trans (hb.mono HB.out.size)
  clear hb
  go_wp2
  go_ret
  exact ⟨rfl, HB2.out⟩
end Go.Proofs.YtpakgaegckkmnaaGreatDoor

namespace Go.Proofs.YtpakgaegckkmnaaGreatDoor
set_option linter.unusedVariables false
open Go Go.RowKit Go.Extern.Stop Go.Stop Go.Extern

theorem as_valueOf90 (t : Addr) (w : World) : (ReflectliteValue.unpack (.iface 62 (.pointer (some t)))).run Tryz.prog w
    = .ok (.agg #[.pointer (some ⟨11, 62, none⟩), .pointer (some ⟨w.heap.size, 0, none⟩), .int .u64 150]) (w.alloc (.cells #[.pointer (some t)] 62)) := by kernel_rfl
theorem as_type90 (a : Addr) (w : World) : (ReflectliteValue.methodAny (ReflectliteValue.valueError "reflectlite.Value.Type" 0) (fun t _ _ _ => ReflectliteType.toType t) #[.agg #[.pointer (some ⟨11, 62, none⟩), .pointer (some a), .int .u64 150]]).run Tryz.prog w
    = .ok (.iface 115 (.agg #[.pointer (some ⟨11, 62, none⟩)])) w := by kernel_rfl
theorem as_methodKind (h : Value) (w : World) : (Go.method 334 115 (.agg #[h]) "Kind").run Tryz.prog w = .ok (142, h) w := by kernel_rfl
theorem as_kind90 (w : World) : ((ReflectliteType.abiMethod fun t => (fun a : Nat => Value.int IntKind.u8 (a : Int)) <$> Rtype.kind t) #[.pointer (some ⟨11, 62, none⟩)]).run Tryz.prog w = .ok (.int .u8 22) w := by kernel_rfl
theorem as_kind25 (w : World) : ((ReflectliteType.abiMethod fun t => (fun a : Nat => Value.int IntKind.u8 (a : Int)) <$> Rtype.kind t) #[.pointer (some ⟨11, 34, none⟩)]).run Tryz.prog w = .ok (.int .u8 2) w := by kernel_rfl
theorem as_rlm (z : Sem Value) (f : TypeId → Addr → Nat → Nat → Sem Value) (v : Value) :
    ReflectliteValue.method z f #[v] = (do match ← ReflectliteValue.parts v with | none => z | some (t, a, fl) => f t a fl (fl % 32)) := rfl
theorem as_parts90 (a : Addr) (w : World) : (ReflectliteValue.parts (.agg #[.pointer (some ⟨11, 62, none⟩), .pointer (some a), .int .u64 150])).run Tryz.prog w = .ok (some (62, a, 150)) w := by kernel_rfl
theorem as_isNil90 (a p : Addr) (W : World) (ha : W.cell? a = some (.pointer (some p))) :
    (ReflectliteValue.method (ReflectliteValue.valueError "reflectlite.Value.IsNil" 0) ReflectliteValue.isNil #[.agg #[.pointer (some ⟨11, 62, none⟩), .pointer (some a), .int .u64 150]]).run Tryz.prog W = .ok (.bool false) W := by
  rw [as_rlm]
  simp only [Sem.run_bind, as_parts90, Result.andThen]
  simp [ReflectliteValue.isNil, loadVar, isAgg, underlying, Tryz.underlying62, ha, Result.andThen]
theorem as_methodElem (h : Value) (w : World) : (Go.method 334 115 (.agg #[h]) "Elem").run Tryz.prog w = .ok (155, .agg #[h]) w := by kernel_rfl
theorem as_methodImplements (h : Value) (w : World) : (Go.method 334 115 (.agg #[h]) "Implements").run Tryz.prog w = .ok (156, .agg #[h]) w := by kernel_rfl
theorem as_methodAssignableTo (h : Value) (w : World) : (Go.method 334 115 (.agg #[h]) "AssignableTo").run Tryz.prog w = .ok (153, .agg #[h]) w := by kernel_rfl
theorem as_elem90 (w : World) : (ReflectliteType.method ReflectliteType.elem #[.agg #[.pointer (some ⟨11, 62, none⟩)]]).run Tryz.prog w = .ok (.iface 115 (.agg #[.pointer (some ⟨11, 34, none⟩)])) w := by kernel_rfl
theorem as_implements25 (w : World) : (ReflectliteType.relation "Implements" ReflectliteType.implements_ #[.agg #[.pointer (some ⟨11, 34, none⟩)], .iface 115 (.agg #[.pointer (some ⟨11, 25, none⟩)])]).run Tryz.prog w = .ok (.bool true) w := by kernel_rfl
theorem as_typeOf25 (v : Value) (w : World) : (ReflectliteType.typeOf #[.iface 34 v]).run Tryz.prog w = .ok (.iface 115 (.agg #[.pointer (some ⟨11, 34, none⟩)])) w := by kernel_rfl
theorem as_assignable25 (w : World) : (ReflectliteType.relation "AssignableTo" ReflectliteType.assignableTo #[.agg #[.pointer (some ⟨11, 34, none⟩)], .iface 115 (.agg #[.pointer (some ⟨11, 34, none⟩)])]).run Tryz.prog w = .ok (.bool true) w := by kernel_rfl
theorem as_valueOf25 (k : Int) (w : World) : (ReflectliteValue.unpack (.iface 34 (.int .i64 k))).run Tryz.prog w
    = .ok (.agg #[.pointer (some ⟨11, 34, none⟩), .pointer (some ⟨w.heap.size, 0, none⟩), .int .u64 130]) (w.alloc (.cells #[.int .i64 k] 34)) := by kernel_rfl
theorem as_elemOf90 (w : World) : (Rtype.elem? 62).run Tryz.prog w = .ok (some 34) w := by kernel_rfl
theorem as_mk25 (p : Addr) (w : World) : (ReflectliteValue.mk 34 p ReflectliteValue.flagAddr).run Tryz.prog w = .ok (.agg #[.pointer (some ⟨11, 34, none⟩), .pointer (some p), .int .u64 386]) w := by kernel_rfl
theorem as_elemV90 (a p : Addr) (W : World) (ha : W.cell? a = some (.pointer (some p))) :
    (ReflectliteValue.method (ReflectliteValue.valueError "reflectlite.Value.Elem" 0) ReflectliteValue.elem #[.agg #[.pointer (some ⟨11, 62, none⟩), .pointer (some a), .int .u64 150]]).run Tryz.prog W
      = .ok (.agg #[.pointer (some ⟨11, 34, none⟩), .pointer (some p), .int .u64 386]) W := by
  rw [as_rlm]
  simp only [Sem.run_bind, as_parts90, Result.andThen]
  simp [ReflectliteValue.elem, loadVar, isAgg, underlying, Tryz.underlying62, ha, Result.andThen, as_elemOf90, as_mk25]
theorem as_rls (v x : Value) : ReflectliteValue.set #[v, x] = (do
    let (some (dst, a, fl), some (src, b, _)) := (← ReflectliteValue.parts v, ← ReflectliteValue.parts x)
      | unsupported (.noEntry "extern/(internal/reflectlite.Value).Set.zeroValue")
    if fl / ReflectliteValue.flagAddr % 2 == 0 then unsupported (.noEntry "extern/(internal/reflectlite.Value).Set.unaddressable")
    let val ← loadVar src b
    if ← Rtype.directlyAssignable dst src then storeVar dst a val
    else if ← Rtype.implements dst src then
      if (← Rtype.kind src) == 20 then
        match val with
        | .nilIface => unsupported (.noEntry "extern/reflectlite: a nil value of one interface type handed on as a value of another")
        | _ => storeVar dst a val
      else storeVar dst a (.iface src val)
    else panicString ("reflectlite.Set: value of type " ++ (← Rtype.spelt src) ++ " is not assignable to type " ++ (← Rtype.spelt dst))
    pure (.tuple #[])) := rfl
theorem as_parts25a (a : Addr) (w : World) : (ReflectliteValue.parts (.agg #[.pointer (some ⟨11, 34, none⟩), .pointer (some a), .int .u64 386])).run Tryz.prog w = .ok (some (34, a, 386)) w := by kernel_rfl
theorem as_parts25 (a : Addr) (w : World) : (ReflectliteValue.parts (.agg #[.pointer (some ⟨11, 34, none⟩), .pointer (some a), .int .u64 130])).run Tryz.prog w = .ok (some (34, a, 130)) w := by kernel_rfl
theorem as_direct25 (w : World) : (Rtype.directlyAssignable 34 34).run Tryz.prog w = .ok true w := by kernel_rfl
theorem as_set25 (ta b : Addr) (k : Int) (old : Value) (W : World) (hb : W.cell? b = some (.int .i64 k)) (ht : W.cell? ta = some old) (hf : W.frozen? ta = false) :
    (ReflectliteValue.set #[.agg #[.pointer (some ⟨11, 34, none⟩), .pointer (some ta), .int .u64 386], .agg #[.pointer (some ⟨11, 34, none⟩), .pointer (some b), .int .u64 130]]).run Tryz.prog W
      = .ok (.tuple #[]) (W.setCell ta (.int .i64 k)) := by
  rw [as_rls]
  simp only [Sem.run_bind, as_parts25a, as_parts25, Result.andThen]
  simp [ReflectliteValue.flagAddr, loadVar, isAgg, underlying, Tryz.underlying34, hb, Result.andThen, as_direct25, storeVar, Value.cells, storeCells, Addr.add]
  rw [run_store Tryz.prog W ta _ _ (by rfl)]
  simp [ht, hf]

/-- The words of reflectlite's values at this program. -/
abbrev v90 (a : Nat) : Array Value := #[.pointer (some ⟨11, 62, none⟩), .pointer (some ⟨a, 0, none⟩), .int .u64 150]

/-- The variable errors.errorType reads as it was laid. -/
abbrev ErrT (w : World) : Prop := w.cell? ⟨0, 0, none⟩ = some (.iface 115 (.agg #[.pointer (some ⟨11, 25, none⟩)]))
theorem as_typeOf68 (v : Value) (w : World) : (ReflectliteType.typeOf #[.iface 43 v]).run Tryz.prog w = .ok (.iface 115 (.agg #[.pointer (some ⟨11, 43, none⟩)])) w := by kernel_rfl
theorem as_assignable68 (w : World) : (ReflectliteType.relation "AssignableTo" ReflectliteType.assignableTo #[.agg #[.pointer (some ⟨11, 43, none⟩)], .iface 115 (.agg #[.pointer (some ⟨11, 34, none⟩)])]).run Tryz.prog w = .ok (.bool false) w := by kernel_rfl
theorem as_noAs68 (v : Value) (xT : TypeId) (w : World) : (Instr.typeAssert (.iface 43 v) xT 120 true).run Tryz.prog w = .ok (.tuple #[.nilIface, .bool false]) w := run_typeAssert_lacksB Tryz.underlying120 (by kernel_rfl) (by kernel_rfl) v xT w
theorem as_unwrap68 (v : Value) (xT : TypeId) (w : World) : (Instr.typeAssert (.iface 43 v) xT 123 true).run Tryz.prog w = .ok (.tuple #[.iface 43 v, .bool true]) w := run_typeAssert_hasB Tryz.underlying123 (by kernel_rfl) v xT w
theorem as_methodUnwrap (p : Addr) (w : World) : (Go.method 334 43 (.pointer (some p)) "Unwrap").run Tryz.prog w = .ok (147, .pointer (some p)) w := by kernel_rfl
set_option maxHeartbeats 8000000 in
theorem as_atV (k ln : Int) (a : Nat) (t : Addr) (old : Value) (w : World) (hg : w.cell? ⟨0, 0, none⟩ = some (.iface 115 (.agg #[.pointer (some ⟨11, 25, none⟩)]))) (ht0 : w.cell? t = some old) (hf0 : w.frozen? t = false) (ha : w.heap[a]? = some (.cells #[.int .i64 k, .int .i64 ln] 78)) :
    Calls Tryz.prog 21 #[.iface 43 (.pointer (some ⟨a, 0, none⟩)), .iface 62 (.pointer (some t))] w fun ev w' => ev = .returned (.bool true) ∧ w' = ((((w.alloc (.cells #[.pointer (some t)] 62)).alloc (.cells (v90 w.heap.size) 92)).alloc (.cells (v90 w.heap.size) 92)).alloc (.cells #[.int .i64 k] 34)).setCell t (.int .i64 k) := by
  have h6 := @run_callFunc_extern Tryz.prog 33 _ (fun args => ReflectliteValue.unpack (args.getD 0 (.tuple #[]))) Tryz.func33 (by kernel_rfl) (by kernel_rfl) (by kernel_rfl) (by kernel_rfl)
  have h7 := @run_callFunc_extern Tryz.prog 34 _ (ReflectliteValue.methodAny (ReflectliteValue.valueError "reflectlite.Value.Type" 0) (fun t _ _ _ => ReflectliteType.toType t)) Tryz.func34 (by kernel_rfl) (by kernel_rfl) (by kernel_rfl) (by kernel_rfl)
  have h8 := @run_callFunc_extern Tryz.prog 35 _ (ReflectliteValue.method (ReflectliteValue.valueError "reflectlite.Value.IsNil" 0) ReflectliteValue.isNil) Tryz.func35 (by kernel_rfl) (by kernel_rfl) (by kernel_rfl) (by kernel_rfl)
  have h27 := @run_callFunc_extern Tryz.prog 142 _ (ReflectliteType.abiMethod fun t => do pure (.int .u8 (← Rtype.kind t))) Tryz.func142 (by kernel_rfl) (by kernel_rfl) (by kernel_rfl) (by kernel_rfl)
  have h37 := @run_callFunc_extern Tryz.prog 155 _ (ReflectliteType.method ReflectliteType.elem) Tryz.func155 (by kernel_rfl) (by kernel_rfl) (by kernel_rfl) (by kernel_rfl)
  have h38 := @run_callFunc_extern Tryz.prog 156 _ (ReflectliteType.relation "Implements" ReflectliteType.implements_) Tryz.func156 (by kernel_rfl) (by kernel_rfl) (by kernel_rfl) (by kernel_rfl)
  have h10 := @run_callFunc_extern Tryz.prog 53 _ ReflectliteType.typeOf Tryz.func53 (by kernel_rfl) (by kernel_rfl) (by kernel_rfl) (by kernel_rfl)
  have h35 := @run_callFunc_extern Tryz.prog 153 _ (ReflectliteType.relation "AssignableTo" ReflectliteType.assignableTo) Tryz.func153 (by kernel_rfl) (by kernel_rfl) (by kernel_rfl) (by kernel_rfl)
  have h11 := @run_callFunc_extern Tryz.prog 54 _ (ReflectliteValue.method (ReflectliteValue.valueError "reflectlite.Value.Elem" 0) ReflectliteValue.elem) Tryz.func54 (by kernel_rfl) (by kernel_rfl) (by kernel_rfl) (by kernel_rfl)
  have h12 := @run_callFunc_extern Tryz.prog 55 _ ReflectliteValue.set Tryz.func55 (by kernel_rfl) (by kernel_rfl) (by kernel_rfl) (by kernel_rfl)
  have tO := as_typeOf25
  have tO2 := as_typeOf68
  have a68 := as_assignable68
  have nA := as_noAs68
  have yU := as_unwrap68
  have mU := as_methodUnwrap
  have mA := as_methodAssignableTo
  have a25 := as_assignable25
  have v25 := as_valueOf25
  have f6 := as_valueOf90
  have f7 := as_type90
  have mK := as_methodKind
  have mE := as_methodElem
  have mI := as_methodImplements
  have k27 := as_kind90
  have k25 := as_kind25
  have e27 := as_elem90
  have i25 := as_implements25
  have n8 := as_isNil90 ⟨w.heap.size, 0, none⟩ t ((w.alloc (.cells #[.pointer (some t)] 62)).alloc (.cells (v90 w.heap.size) 92)) (by simp)
  have hlt : 0 < w.heap.size := by
    rcases Nat.lt_or_ge 0 w.heap.size with h | h
    · exact h
    · simp [World.cell?, Array.getElem?_eq_none h] at hg
  have hg2 : ((w.alloc (.cells #[.pointer (some t)] 62)).alloc (.cells (v90 w.heap.size) 92)).cell? ⟨0, 0, none⟩ = some (.iface 115 (.agg #[.pointer (some ⟨11, 25, none⟩)])) := by
    rw [World.cell?_alloc_lt _ _ ⟨0, 0, none⟩ (by simp), World.cell?_alloc_lt _ _ ⟨0, 0, none⟩ hlt]; exact hg
  have htl : t.block < w.heap.size := by
    rcases Nat.lt_or_ge t.block w.heap.size with h | h
    · exact h
    · simp [World.cell?, Array.getElem?_eq_none h] at ht0
  have el := as_elemV90 ⟨w.heap.size, 0, none⟩ t (((w.alloc (.cells #[.pointer (some t)] 62)).alloc (.cells (v90 w.heap.size) 92)).alloc (.cells (v90 w.heap.size) 92)) (by
    rw [World.cell?_alloc_lt _ _ ⟨w.heap.size, 0, none⟩ (by simp; omega), World.cell?_alloc_lt _ _ ⟨w.heap.size, 0, none⟩ (by simp), World.cell?_alloc_at _ _ _ _ rfl]; rfl)
  have st := as_set25 t ⟨w.heap.size + 1 + 1 + 1, 0, none⟩ k old ((((w.alloc (.cells #[.pointer (some t)] 62)).alloc (.cells (v90 w.heap.size) 92)).alloc (.cells (v90 w.heap.size) 92)).alloc (.cells #[.int .i64 k] 34))
    (by rw [World.cell?_alloc_at _ _ _ _ (by simp)]; rfl)
    (by rw [World.cell?_alloc_lt _ _ t (by simp; omega), World.cell?_alloc_lt _ _ t (by simp; omega), World.cell?_alloc_lt _ _ t (by simp; omega), World.cell?_alloc_lt _ _ t htl]; exact ht0)
    (by rw [World.frozen?_alloc_old _ _ t (by simp; omega), World.frozen?_alloc_old _ _ t (by simp; omega), World.frozen?_alloc_old _ _ t (by simp; omega), World.frozen?_alloc_old _ _ t (Nat.ne_of_lt htl)]; exact hf0)
  have hal : a < w.heap.size := (Array.getElem?_eq_some_iff.1 ha).1
  have ca : ((w.alloc (.cells #[.pointer (some t)] 62)).alloc (.cells (v90 w.heap.size) 92)).cell? ⟨a, 0, none⟩ = some (.int .i64 k) := by
    rw [World.cell?_alloc_lt _ _ ⟨a, 0, none⟩ (by simp; omega), World.cell?_alloc_lt _ _ ⟨a, 0, none⟩ hal, cell_of_row _ _ _ _ _ _ ha]; rfl
  have ca2 : (((w.alloc (.cells #[.pointer (some t)] 62)).alloc (.cells (v90 w.heap.size) 92)).alloc (.cells (v90 w.heap.size) 92)).cell? ⟨a, 0, none⟩ = some (.int .i64 k) := by
    rw [World.cell?_alloc_lt _ _ ⟨a, 0, none⟩ (by simp; omega)]; exact ca
  go_enter Tryz.func21, Tryz.ntmps21
  go_wp2
  refine wp_loop_rounds 2 ?_
  rw [rounds_succ]
  go_wp2
  rw [rounds_succ]
  go_wp2
  go_ret
  exact ⟨rfl, rfl⟩
set_option maxHeartbeats 2000000 in
theorem tell_at (k p : Int) (a : Nat) (w : World) (hg : ErrT w) (ha : w.heap[a]? = some (.cells #[.int .i64 k, .int .i64 p] 78)) : Calls Tryz.prog 11 #[.iface 43 (.pointer (some ⟨a, 0, none⟩))] w fun e w' => e = .returned (.int .i64 k) ∧ Below w.heap.size w w' := by
  have hlt : 0 < w.heap.size := by
    rcases Nat.lt_or_ge 0 w.heap.size with h | h
    · exact h
    · have hg0 : w.cell? ⟨0, 0, none⟩ = some (.iface 115 (.agg #[.pointer (some ⟨11, 25, none⟩)])) := hg
      simp [World.cell?, Array.getElem?_eq_none h] at hg0
  have hg' : Hid (ErrT (w.alloc (.cells #[.int .i64 0] 34))) := by
    show _ = _
    rw [World.cell?_alloc_lt _ _ ⟨0, 0, none⟩ hlt]; exact hg
  have ha' : Hid ((w.alloc (.cells #[.int .i64 0] 34)).heap[a]? = some (.cells #[.int .i64 k, .int .i64 p] 78)) := row_alloc ha _
  clear hg ha
  go_enter Tryz.func11, Tryz.ntmps11
  go_wp2_with (go_at_call 21; fail)
  refine (as_atV k p a ⟨w.heap.size, 0, none⟩ (.int .i64 0) _ hg'.out (by simp) (by simp) ha'.out).mono ?_
  rintro e w1 ⟨rfl, hw1⟩
  have HB : Hid (Below w.heap.size w w1) := by
    show Below _ _ _
    rw [hw1]
    exact Below.setCell (((((((Below.refl _ _).alloc (Nat.le_refl _) _).alloc (by simp) _).alloc (by simp; omega) _).alloc (by simp; omega) _).alloc (by simp; omega) _)) (by simp) _
  have c1 : w1.cell? ⟨w.heap.size, 0, none⟩ = some (.int .i64 k) := by
    have B : Below (w.heap.size + 1) (w.alloc (.cells #[.int .i64 0] 34)) (((((w.alloc (.cells #[.int .i64 0] 34)).alloc (.cells #[.pointer (some ⟨w.heap.size, 0, none⟩)] 62)).alloc (.cells (v90 (w.alloc (.cells #[.int .i64 0] 34)).heap.size) 92)).alloc (.cells (v90 (w.alloc (.cells #[.int .i64 0] 34)).heap.size) 92)).alloc (.cells #[.int .i64 k] 34)) :=
      ((((Below.refl _ _).alloc (by simp) _).alloc (by simp) _).alloc (by simp) _).alloc (by simp) _
    have G := (B.block w.heap.size (by omega)).trans (heap_alloc_last w _)
    rw [hw1, cell_of_row _ _ _ _ _ _ (heap_setCell_same _ _ _ _ _ _ G)]; rfl
  clear hw1
  go_wp2
  go_ret
  exact ⟨rfl, HB.out⟩
end Go.Proofs.YtpakgaegckkmnaaGreatDoor

namespace Go.Proofs.YtpakgaegckkmnaaGreatDoor
set_option linter.unusedVariables false
set_option linter.unusedSimpArgs false
open Go Go.RowKit

theorem ErrT.below {w w' : World} (h : ErrT w) (hb : Below w.heap.size w w') : ErrT w' := by
  have hlt : 0 < w.heap.size := by
    rcases Nat.lt_or_ge 0 w.heap.size with h' | h'
    · exact h'
    · have hg0 : w.cell? ⟨0, 0, none⟩ = some (.iface 115 (.agg #[.pointer (some ⟨11, 25, none⟩)])) := h
      simp [World.cell?, Array.getElem?_eq_none h'] at hg0
  show w'.cell? ⟨0, 0, none⟩ = _
  rw [hb.cell (p := ⟨0, 0, none⟩) hlt]; exact h
theorem j_app (A B : ByteArray) : (A ++ ⟨#[10]⟩ ++ B).data.toList = A.data.toList ++ 10 :: B.data.toList := by simp
theorem j_size (A B : ByteArray) : (A ++ ⟨#[10]⟩ ++ B).size = A.size + 1 + B.size := by simp only [ByteArray.size_append]; rfl
theorem j_len (A : ByteArray) : A.data.toList.length = A.size := by simp
theorem j_str (a b : By) : (ByteArray.mk a.toArray ++ ByteArray.mk b.toArray) = ByteArray.mk (a ++ b).toArray := by
  apply ByteArray.ext
  simp

set_option maxRecDepth 100000 in
set_option maxHeartbeats 4000000 in
theorem joins_any (w : World) (he : EnvW 11 w) (TC : ErrT w) (s u : ByteArray) :
    Calls Tryz.prog 5 #[.string s, .string u] w fun e w' => e = .returned (.bool true) ∧ Below w.heap.size w w' := by
  by_cases h1 : 1000 < s.size
  · have h1' : (1000 : Int) < s.size := by omega
    go_enter Tryz.func5, Tryz.ntmps5
    go_wp2
    go_ret
    exact ⟨rfl, Below.refl _ _⟩
  have h1' : ¬ (1000 : Int) < s.size := by omega
  by_cases h2 : 1000 < u.size
  · have h2' : (1000 : Int) < u.size := by omega
    go_enter Tryz.func5, Tryz.ntmps5
    go_wp2
    go_ret
    exact ⟨rfl, Below.refl _ _⟩
  have h2' : ¬ (1000 : Int) < u.size := by omega
  by_cases h3 : 1400 < s.size + u.size
  · have h3' : (1400 : Int) < (s.size : Int) + u.size := by omega
    go_enter Tryz.func5, Tryz.ntmps5
    go_wp2
    go_ret
    exact ⟨rfl, Below.refl _ _⟩
  have h3' : ¬ (1400 : Int) < (s.size : Int) + u.size := by omega
  have HD : Hid (Calls Tryz.prog 7 #[] w fun e w' => e = .returned (.bool true) ∧ Below w.heap.size w w') := parsed_any w he
  have HE : Hid (∀ w', Below w.heap.size w w' → EnvW 11 w') := fun w' hb => he.below hb
  obtain ⟨c, hc⟩ : ∃ c : ByteArray, c = s ++ ⟨#[10]⟩ ++ u := ⟨_, rfl⟩
  have HC : Hid (c.data.toList = s.data.toList ++ 10 :: u.data.toList) := by show _ = _; rw [hc]; exact j_app s u
  have HCz : Hid (c.size ≤ 1000000) := by show _ ≤ _; rw [hc, j_size]; omega
  have HZ : Hid (s.size ≤ 1000000 ∧ u.size ≤ 1000000 ∧ s.data.toList.length + u.data.toList.length ≤ 1400) := ⟨by omega, by omega, by rw [j_len, j_len]; omega⟩
  have HP3 : Hid (∀ w1, Below w.heap.size w w1 → Calls Tryz.prog 8 #[.string (s ++ ⟨#[10]⟩ ++ u)] w1 fun e w' => (∃ q n c x, e = .returned (.tuple #[.slice q n c, x])) ∧ Below w1.heap.size w1 w') := fun w1 hb => by
    rw [← hc]
    exact parse_some c w1 (he.below hb).env HCz.out
  cases hs : parseV s.data.toList with
  | error x =>
    obtain ⟨k, p⟩ := x
    have HP1 : Hid (∀ w1, Below w.heap.size w w1 → Calls Tryz.prog 8 #[.string s] w1 fun e w' => ∃ a, e = .returned (.tuple #[.slice none 0 0, .iface 43 (.pointer (some ⟨a, 0, none⟩))]) ∧ w'.heap[a]? = some (.cells #[.int .i64 k, .int .i64 (p : Int)] 78) ∧ Below w1.heap.size w1 w') := fun w1 hb => parse_none (he.below hb).env HZ.out.1 hs
    have HP2 : Hid (∀ w1, Below w.heap.size w w1 → Calls Tryz.prog 8 #[.string u] w1 fun e w' => (∃ q n c x, e = .returned (.tuple #[.slice q n c, x])) ∧ Below w1.heap.size w1 w') := fun w1 hb => parse_some u w1 (he.below hb).env HZ.out.2.1
    clear he hs hc TC
    go_enter Tryz.func5, Tryz.ntmps5
    go_wp2_with (first | (go_at_call 7; refine HD.out.mono ?_; rintro e w1 ⟨rfl, hb⟩; have HB : Hid (Below w.heap.size w w1) := hb; clear hb) | (go_at_call 8; fail))
    refine (HP1.out _ HB.out).mono ?_
    rintro e w2 ⟨a, rfl, _, hb⟩
    have HB2 : Hid (Below w.heap.size w w2) := HB.out.trans (hb.mono HB.out.size)
    clear hb
    go_wp2_with (go_at_call 8; fail)
    refine (HP2.out _ HB2.out).mono ?_
    rintro e w3 ⟨⟨q, n, c1, x, rfl⟩, hb⟩
    have HB3 : Hid (Below w.heap.size w w3) := HB2.out.trans (hb.mono HB2.out.size)
    clear hb
    go_wp2_with (go_at_call 8; fail)
    refine (HP3.out _ HB3.out).mono ?_
    rintro e w4 ⟨⟨q, n, c1, x, rfl⟩, hb⟩
    have HB4 : Hid (Below w.heap.size w w4) := HB3.out.trans (hb.mono HB3.out.size)
    clear hb
    go_wp2
    go_ret
    exact ⟨rfl, HB4.out⟩
  | ok ta =>
    obtain ⟨La, rfl, ga, la, na⟩ := parse_good (by rw [j_len]; omega) hs
    have HP1 : Hid (∀ w1, Below w.heap.size w w1 → Calls Tryz.prog 8 #[.string s] w1 fun e w' => ∃ q c, e = .returned (.tuple #[.slice q La.length c, .nilIface]) ∧ Got w' (.slice q La.length c) La ∧ Below w1.heap.size w1 w') := fun w1 hb => parse_got (he.below hb).env HZ.out.1 hs
    cases hu : parseV u.data.toList with
    | error x =>
      obtain ⟨k, p⟩ := x
      have HP2 : Hid (∀ w1, Below w.heap.size w w1 → Calls Tryz.prog 8 #[.string u] w1 fun e w' => ∃ a, e = .returned (.tuple #[.slice none 0 0, .iface 43 (.pointer (some ⟨a, 0, none⟩))]) ∧ w'.heap[a]? = some (.cells #[.int .i64 k, .int .i64 (p : Int)] 78) ∧ Below w1.heap.size w1 w') := fun w1 hb => parse_none (he.below hb).env HZ.out.2.1 hu
      clear he hs hc hu TC ga la na
      go_enter Tryz.func5, Tryz.ntmps5
      go_wp2_with (first | (go_at_call 7; refine HD.out.mono ?_; rintro e w1 ⟨rfl, hb⟩; have HB : Hid (Below w.heap.size w w1) := hb; clear hb) | (go_at_call 8; fail))
      refine (HP1.out _ HB.out).mono ?_
      rintro e w2 ⟨q, c1, rfl, _, hb⟩
      have HB2 : Hid (Below w.heap.size w w2) := HB.out.trans (hb.mono HB.out.size)
      clear hb
      go_wp2_with (go_at_call 8; fail)
      refine (HP2.out _ HB2.out).mono ?_
      rintro e w3 ⟨a, rfl, _, hb⟩
      have HB3 : Hid (Below w.heap.size w w3) := HB2.out.trans (hb.mono HB2.out.size)
      clear hb
      go_wp2_with (go_at_call 8; fail)
      refine (HP3.out _ HB3.out).mono ?_
      rintro e w4 ⟨⟨q, n, c1, x, rfl⟩, hb⟩
      have HB4 : Hid (Below w.heap.size w w4) := HB3.out.trans (hb.mono HB3.out.size)
      clear hb
      go_wp2
      go_ret
      exact ⟨rfl, HB4.out⟩
    | ok tb =>
      obtain ⟨Lb, rfl, gb, lb, nb⟩ := parse_good (by rw [j_len]; omega) hu
      have HP2 : Hid (∀ w1, Below w.heap.size w w1 → Calls Tryz.prog 8 #[.string u] w1 fun e w' => ∃ q c, e = .returned (.tuple #[.slice q Lb.length c, .nilIface]) ∧ Got w' (.slice q Lb.length c) Lb ∧ Below w1.heap.size w1 w') := fun w1 hb => parse_got (he.below hb).env HZ.out.2.1 hu
      obtain ⟨J1, J2⟩ := joins_plain HZ.out.2.2 hs hu ga gb
      rw [← HC.out] at J1 J2
      have HQa : Hid (∀ w1 v, Below w.heap.size w w1 → Got w1 v La → Calls Tryz.prog 9 #[v] w1 fun e w' => e = .returned (.string ⟨(prT La).toArray⟩) ∧ Below w1.heap.size w1 w') := fun w1 v hb hg => print_got (he.below hb) hg ga la na
      have HQb : Hid (∀ w1 v, Below w.heap.size w w1 → Got w1 v Lb → Calls Tryz.prog 9 #[v] w1 fun e w' => e = .returned (.string ⟨(prT Lb).toArray⟩) ∧ Below w1.heap.size w1 w') := fun w1 v hb hg => print_got (he.below hb) hg gb lb nb
      obtain ⟨A, hA⟩ : ∃ A, A = La.length := ⟨_, rfl⟩
      obtain ⟨B, hB⟩ : ∃ B, B = Lb.length := ⟨_, rfl⟩
      rw [← hA] at HP1 J1 J2 na
      rw [← hB] at HP2 J1 J2 nb
      by_cases h12 : 12 < A + B
      · obtain ⟨p, hp⟩ := J2 h12
        have HP4 : Hid (∀ w1, Below w.heap.size w w1 → Calls Tryz.prog 8 #[.string (s ++ ⟨#[10]⟩ ++ u)] w1 fun e w' => ∃ a, e = .returned (.tuple #[.slice none 0 0, .iface 43 (.pointer (some ⟨a, 0, none⟩))]) ∧ w'.heap[a]? = some (.cells #[.int .i64 4, .int .i64 (p : Int)] 78) ∧ Below w1.heap.size w1 w') := fun w1 hb => by
          rw [← hc]
          exact parse_none (he.below hb).env HCz.out hp
        have HT : Hid (∀ w', Below w.heap.size w w' → ErrT w') := fun w' hb => TC.below hb
        have h12' : (12 : Int) < (A : Int) + B := by omega
        clear he hs hc hu TC ga la gb lb J1 J2 hp HP3 hA hB h12
        go_enter Tryz.func5, Tryz.ntmps5
        go_wp2_with (first | (go_at_call 7; refine HD.out.mono ?_; rintro e w1 ⟨rfl, hb⟩; have HB : Hid (Below w.heap.size w w1) := hb; clear hb) | (go_at_call 8; fail))
        refine (HP1.out _ HB.out).mono ?_
        rintro e w2 ⟨q, c1, rfl, _, hb⟩
        have HB2 : Hid (Below w.heap.size w w2) := HB.out.trans (hb.mono HB.out.size)
        clear hb
        go_wp2_with (go_at_call 8; fail)
        refine (HP2.out _ HB2.out).mono ?_
        rintro e w3 ⟨q2, c2, rfl, _, hb⟩
        have HB3 : Hid (Below w.heap.size w w3) := HB2.out.trans (hb.mono HB2.out.size)
        clear hb
        go_wp2_with (go_at_call 8; fail)
        refine (HP4.out _ HB3.out).mono ?_
        rintro e w4 ⟨a, rfl, ha, hb⟩
        have HB4 : Hid (Below w.heap.size w w4) := HB3.out.trans (hb.mono HB3.out.size)
        have HA : Hid (w4.heap[a]? = some (.cells #[.int .i64 4, .int .i64 (p : Int)] 78)) := ha
        clear hb ha
        go_wp2_with (go_at_call 11; fail)
        refine (tell_at 4 p a w4 (HT.out _ HB4.out) HA.out).mono ?_
        rintro e w5 ⟨rfl, hb⟩
        have HB5 : Hid (Below w.heap.size w w5) := HB4.out.trans (hb.mono HB4.out.size)
        clear hb
        go_wp2
        go_ret
        exact ⟨rfl, HB5.out⟩
      · obtain ⟨Lc, hp, gc, epr, nc, lc⟩ := J1 (by omega)
        have HP4 : Hid (∀ w1, Below w.heap.size w w1 → Calls Tryz.prog 8 #[.string (s ++ ⟨#[10]⟩ ++ u)] w1 fun e w' => ∃ q c, e = .returned (.tuple #[.slice q Lc.length c, .nilIface]) ∧ Got w' (.slice q Lc.length c) Lc ∧ Below w1.heap.size w1 w') := fun w1 hb => by
          rw [← hc]
          exact parse_got (he.below hb).env HCz.out hp
        obtain ⟨XA, hXA⟩ : ∃ X : ByteArray, X = ⟨(prT La).toArray⟩ := ⟨_, rfl⟩
        obtain ⟨XB, hXB⟩ : ∃ X : ByteArray, X = ⟨(prT Lb).toArray⟩ := ⟨_, rfl⟩
        have zA : XA.size ≤ 150100 := by rw [hXA, ← j_len]; exact la
        have zB : XB.size ≤ 150100 := by rw [hXB, ← j_len]; exact lb
        rw [← hXA] at HQa
        rw [← hXB] at HQb
        have HQc : Hid (∀ w1 v, Below w.heap.size w w1 → Got w1 v Lc → Calls Tryz.prog 9 #[v] w1 fun e w' => e = .returned (.string (XA ++ XB)) ∧ Below w1.heap.size w1 w') := fun w1 v hb hg => by
          have := print_got (he.below hb) hg gc lc nc
          rw [epr, ← j_str, ← hXA, ← hXB] at this
          exact this
        have h12' : ¬ (12 : Int) < (A : Int) + B := by omega
        obtain ⟨C, hC⟩ : ∃ C, C = Lc.length := ⟨_, rfl⟩
        rw [← hC] at HP4
        clear he hs hc hu TC ga la gb lb J1 J2 hp HP3 hA hB h12 hXA hXB gc epr nc lc hC
        go_enter Tryz.func5, Tryz.ntmps5
        go_wp2_with (first | (go_at_call 7; refine HD.out.mono ?_; rintro e w1 ⟨rfl, hb⟩; have HB : Hid (Below w.heap.size w w1) := hb; clear hb) | (go_at_call 8; fail))
        refine (HP1.out _ HB.out).mono ?_
        rintro e w2 ⟨q, c1, rfl, hg, hb⟩
        have HB2 : Hid (Below w.heap.size w w2) := HB.out.trans (hb.mono HB.out.size)
        have HGa : Hid (Got w2 (.slice q A c1) La) := hg
        clear hb hg
        go_wp2_with (go_at_call 8; fail)
        refine (HP2.out _ HB2.out).mono ?_
        rintro e w3 ⟨q2, c2, rfl, hg, hb⟩
        have HB3 : Hid (Below w.heap.size w w3) := HB2.out.trans (hb.mono HB2.out.size)
        have HGb : Hid (Got w3 (.slice q2 B c2) Lb) := hg
        have HGa3 : Hid (Got w3 (.slice q A c1) La) := HGa.out.below hb
        clear hb hg
        go_wp2_with (go_at_call 8; fail)
        refine (HP4.out _ HB3.out).mono ?_
        rintro e w4 ⟨q4, c4, rfl, hg, hb⟩
        have HB4 : Hid (Below w.heap.size w w4) := HB3.out.trans (hb.mono HB3.out.size)
        have HGc : Hid (Got w4 (.slice q4 C c4) Lc) := hg
        have HGb4 : Hid (Got w4 (.slice q2 B c2) Lb) := HGb.out.below hb
        have HGa4 : Hid (Got w4 (.slice q A c1) La) := HGa3.out.below hb
        clear hb hg
        go_wp2_with (go_at_call 9; fail)
        refine (HQc.out _ _ HB4.out HGc.out).mono ?_
        rintro e w5 ⟨rfl, hb⟩
        have HB5 : Hid (Below w.heap.size w w5) := HB4.out.trans (hb.mono HB4.out.size)
        have HGb5 : Hid (Got w5 (.slice q2 B c2) Lb) := HGb4.out.below hb
        have HGa5 : Hid (Got w5 (.slice q A c1) La) := HGa4.out.below hb
        clear hb
        go_wp2_with (go_at_call 9; fail)
        refine (HQa.out _ _ HB5.out HGa5.out).mono ?_
        rintro e w6 ⟨rfl, hb⟩
        have HB6 : Hid (Below w.heap.size w w6) := HB5.out.trans (hb.mono HB5.out.size)
        have HGb6 : Hid (Got w6 (.slice q2 B c2) Lb) := HGb5.out.below hb
        clear hb
        go_wp2_with (go_at_call 9; fail)
        refine (HQb.out _ _ HB6.out HGb6.out).mono ?_
        rintro e w7 ⟨rfl, hb⟩
        have HB7 : Hid (Below w.heap.size w w7) := HB6.out.trans (hb.mono HB6.out.size)
        clear hb
        go_wp2
        go_ret
        exact ⟨rfl, HB7.out⟩
end Go.Proofs.YtpakgaegckkmnaaGreatDoor

namespace Go.Proofs.YtpakgaegckkmnaaGreatDoor
set_option linter.unusedVariables false
open Go Go.Deep Go.ChangeShapes Go.WideShapes Go.ChangeAt Go.WideMaps Go.WideElems Go.RowKit

section
variable {H : Type} {enc : TypeId × Value → H} {P : Program} {w : World} {base : Nat} {sp : Nat → Bool} {held : Bool}
theorem arr_at {fuel n : Nat} {t e : TypeId} {cs : List Value} {ds : List (DataW H)} {p : List MemPlace} (ht : P.underlying t = some (.array n e)) (h : DataW.trod enc P w base sp held fuel t cs = some (.agg ds, p)) (i : Nat) (hi : i < n) :
    ∃ fuel' d p', ds[i]? = some d ∧ DataW.trod enc P w base sp held fuel' e ((cs.drop (i * P.cellsOf e)).take (P.cellsOf e)) = some (d, p') := by
  obtain ⟨xs, m, rfl, hx, hl, hn, hel⟩ := DataW.trod_array ht h
  have h1 := hel i hi
  simp only [Prod.mk.injEq, DataW.agg.injEq] at hx
  have hlt : i < xs.length := by omega
  rw [List.getElem?_eq_getElem hlt] at h1
  exact ⟨m, xs[i].1, xs[i].2, by rw [hx.1]; simp [hlt], h1⟩

theorem str_at {fuel : Nat} {t : TypeId} {fs : Array Field} {cs : List Value} {ds : List (DataW H)} {p : List MemPlace} (ht : P.underlying t = some (.struct fs)) (h : DataW.trod enc P w base sp held fuel t cs = some (.agg ds, p)) (i : Nat) (f : Field) (hf : fs.toList[i]? = some f) :
    ∃ fuel' d p', ds[i]? = some d ∧ DataW.trod enc P w base sp held fuel' f.type ((cs.drop f.offset).take (P.cellsOf f.type)) = some (d, p') := by
  cases fuel with
  | zero => simp [DataW.trod] at h
  | succ m =>
    simp only [DataW.trod, ht] at h
    split at h
    · obtain ⟨xs, hm, hx⟩ := Option.map_eq_some_iff.1 h
      obtain ⟨b, hb, hb2⟩ := Lib.mapM_at hm i f hf
      simp only [Prod.mk.injEq, DataW.agg.injEq] at hx
      exact ⟨m, b.1, b.2, by rw [← hx.1]; simp [hb], hb2⟩
    · cases h

theorem int_is {fuel : Nat} {t : TypeId} {k k' : IntKind} {z : Int} {cs : List Value} {p : List MemPlace} (ht : P.underlying t = some (.int k)) (h : DataW.trod enc P w base sp held fuel t cs = some (.lit (.int k' z), p)) : cs = [.int k' z] := by
  obtain ⟨n, h1, h2, _⟩ := DataW.trod_int ht h
  simp only [Prod.mk.injEq, DataW.lit.injEq, Lit.int.injEq] at h2
  rw [h1, h2.1.1, h2.1.2]
theorem bool_is {fuel : Nat} {t : TypeId} {b : Bool} {cs : List Value} {p : List MemPlace} (ht : P.underlying t = some .bool) (h : DataW.trod enc P w base sp held fuel t cs = some (.lit (.bool b), p)) : cs = [.bool b] := by
  obtain ⟨n, h1, h2⟩ := DataW.trod_bool ht h
  simp only [Prod.mk.injEq, DataW.lit.injEq, Lit.bool.injEq] at h2
  rw [h1, h2.1]
end

theorem sub_get {cs l : List Value} {a b : Nat} (h : (cs.drop a).take b = l) (j : Nat) (v : Value) (hv : l[j]? = some v) : cs[a + j]? = some v := by
  subst h
  rw [List.getElem?_take] at hv
  split at hv
  · rw [List.getElem?_drop] at hv; exact hv
  · cases hv

section
variable {H : Type} {enc : TypeId × Value → H} {w : World} {base : Nat} {sp : Nat → Bool} {held : Bool}
theorem int_sub {fuel : Nat} {l : List Value} {t : TypeId} {k k' : IntKind} {z : Int} {a : Nat} {p : List MemPlace} (ht : Tryz.prog.underlying t = some (.int k)) (hc : Tryz.prog.cellsOf t = 1)
    (h : DataW.trod enc Tryz.prog w base sp held fuel t ((l.drop a).take (Tryz.prog.cellsOf t)) = some (.lit (.int k' z), p)) : l[a]? = some (.int k' z) := by
  have := int_is ht h
  rw [hc] at this
  exact sub_get this 0 _ rfl
end
theorem own : ownKnob Tryz.prog.godebug = none := by kernel_rfl
theorem laidOut : laidOutB Tryz.prog = true := by kernel_rfl
theorem cells3 : Tryz.prog.cellsOf 3 = 1 := by kernel_rfl
theorem cells9 : Tryz.prog.cellsOf 9 = 1 := by kernel_rfl
theorem cells154 : Tryz.prog.cellsOf 154 = 2 := by kernel_rfl
theorem cells206 : Tryz.prog.cellsOf 206 = 1 := by kernel_rfl
theorem str_one {H : Type} {enc : TypeId × Value → H} {w : World} {base : Nat} {sp : Nat → Bool} {held : Bool} {fuel : Nat} {cs : List Value} {p : List MemPlace} {a : Nat} {s : By} (h : DataW.trod enc Tryz.prog w base sp held fuel 9 ((cs.drop a).take (Tryz.prog.cellsOf 9)) = some (.lit (.string s), p)) : cs[a]? = some (str s) := by
  obtain ⟨x, h1, h2, _⟩ := DataW.trod_string Tryz.underlying9 h
  simp only [Prod.mk.injEq, DataW.lit.injEq, Lit.string.injEq] at h2
  have : x = ⟨s.toArray⟩ := by cases x with | mk d => rw [h2.1]
  rw [this] at h1
  have := sub_get h1 0 _ rfl
  simpa using this


abbrev laidR : List (String × DataW Unit) := [("math/bits.deBruijn32tab", Rows.laid_math_bits_deBruijn32tab), ("math/bits.deBruijn64tab", Rows.laid_math_bits_deBruijn64tab), ("internal/strconv.uint64pow10", Rows.laid_internal_strconv_uint64pow10), ("unicode/utf8.acceptRanges", Rows.laid_unicode_utf8_acceptRanges), ("errors.errorType", Rows.laid_errors_errorType), ("strconv.ErrRange", Rows.laid_strconv_ErrRange), ("strconv.ErrSyntax", Rows.laid_strconv_ErrSyntax), ("bloomery/tree.marks", Rows.laid_bloomery_tree_marks), ("bloomery/tree.pairs", Rows.laid_bloomery_tree_pairs), ("unicode/utf8.first", Rows.laid_unicode_utf8_first)]
abbrev laidP : List (String × DataW Unit) := [("math/bits.deBruijn32tab", Rows.laid_math_bits_deBruijn32tab), ("math/bits.deBruijn64tab", Rows.laid_math_bits_deBruijn64tab), ("internal/strconv.uint64pow10", Rows.laid_internal_strconv_uint64pow10), ("unicode/utf8.acceptRanges", Rows.laid_unicode_utf8_acceptRanges), ("strconv.ErrRange", Rows.laid_strconv_ErrRange), ("strconv.ErrSyntax", Rows.laid_strconv_ErrSyntax), ("bloomery/tree.marks", Rows.laid_bloomery_tree_marks), ("bloomery/tree.pairs", Rows.laid_bloomery_tree_pairs), ("unicode/utf8.first", Rows.laid_unicode_utf8_first)]
theorem laidR_P : laidR.filter (fun x => x.2.handleName?.isNone) = laidP := by kernel_rfl
theorem laidR_H : laidR.filter (fun x => x.2.handleName?.isSome) = [("errors.errorType", Rows.laid_errors_errorType)] := by kernel_rfl
theorem etZ : Tryz.prog.globalNamed "errors.errorType" = some 0 := by kernel_rfl
theorem rtZ : (Tryz.prog.cutTypes.find? (·.1 == "internal/reflectlite.rtype")).map (·.2) = some 115 := by kernel_rfl
theorem tsizeZ : ∃ n, Tryz.prog.types.size = n ∧ ((List.range n).filter fun t => Tryz.prog.rowNamed t [101, 114, 114, 111, 114]) = [25] := ⟨_, rfl, by kernel_rfl⟩
theorem errT_of {W : World} (h : laidMetH Tryz.prog laidR W) : ErrT W := by
  have h2 := (laidMetH_iff.1 h).2
  rw [laidR_H] at h2
  obtain ⟨name, u, ty, e1, e2, e3, e4, e5⟩ := h2 _ (List.mem_singleton.2 rfl)
  have en : name = [101, 114, 114, 111, 114] := (Option.some.inj e1).symm
  subst en
  obtain rfl := Option.some.inj (rtZ.symm.trans e2)
  obtain ⟨n, hn, oneRow⟩ := tsizeZ
  have hm : ty ∈ (List.range n).filter fun t => Tryz.prog.rowNamed t [101, 114, 114, 111, 114] := List.mem_filter.2 ⟨List.mem_range.2 (by rw [← hn]; exact e3), e4⟩
  rw [oneRow] at hm
  obtain rfl := List.mem_singleton.1 hm
  have hh : typeHandle Tryz.prog 25 = .pointer (some ⟨11, 25, none⟩) := by kernel_rfl
  rw [hh] at e5
  simpa using World.var?_cell etZ e5 0

theorem gMarks : Tryz.prog.globalNamed "bloomery/tree.marks" = some 1 := by kernel_rfl
theorem tMarks : (Tryz.prog.globals[1]?).map (·.type) = some 107 := by kernel_rfl
theorem gPairs : Tryz.prog.globalNamed "bloomery/tree.pairs" = some 2 := by kernel_rfl
theorem tPairs : (Tryz.prog.globals[2]?).map (·.type) = some 155 := by kernel_rfl
abbrev markD {H : Type} (r : By) : DataW H := .lit (.string r)
abbrev pairD {H : Type} (r : By × Nat) : DataW H := .agg [.lit (.string r.1), .lit (.int .i64 (r.2 : Int))]
theorem marksD : (Rows.laid_bloomery_tree_marks : DataW Unit) = .agg (marksL.map markD) := by kernel_rfl
theorem pairsD : (Rows.laid_bloomery_tree_pairs : DataW Unit) = .agg (pairsL.map pairD) := by kernel_rfl
theorem mark_cells {w : World} {fuel : Nat} {cs : List Value} {p : List MemPlace} (h : DataW.trod (fun _ => ()) Tryz.prog w 0 (fun _ => true) false fuel 107 cs = some (.agg (marksL.map markD), p)) (o : Nat) (v : Value) (hv : (marksL.map str)[o]? = some v) : cs[o]? = some v := by
  rw [List.getElem?_map] at hv
  obtain ⟨r, hr, rfl⟩ := Option.map_eq_some_iff.1 hv
  have hlt : o < marksL.length := (List.getElem?_eq_some_iff.1 hr).1
  obtain ⟨m, d, p', hd, h2⟩ := arr_at Tryz.underlying107 h o hlt
  rw [List.getElem?_map, hr] at hd
  simp only [Option.map_some, Option.some.injEq] at hd
  subst hd
  have := str_one h2
  rw [cells9, Nat.mul_one] at this
  exact this
theorem pair_cells {w : World} {fuel : Nat} {cs : List Value} {p : List MemPlace} (h : DataW.trod (fun _ => ()) Tryz.prog w 0 (fun _ => true) false fuel 155 cs = some (.agg (pairsL.map pairD), p)) (o : Nat) (r : By × Nat) (hr : pairsL[o]? = some r) :
    cs[o * 2]? = some (str r.1) ∧ cs[o * 2 + 1]? = some (.int .i64 (r.2 : Int)) := by
  have hlt : o < pairsL.length := (List.getElem?_eq_some_iff.1 hr).1
  obtain ⟨m, d, p', hd, h2⟩ := arr_at Tryz.underlying155 h o hlt
  rw [List.getElem?_map, hr] at hd
  simp only [Option.map_some, Option.some.injEq] at hd
  rw [cells154] at h2
  subst hd
  obtain ⟨_, d0, _, e0, h0⟩ := str_at Tryz.underlying154 h2 0 _ rfl
  obtain ⟨_, d1, _, e1, h1⟩ := str_at Tryz.underlying154 h2 1 _ rfl
  cases e0; cases e1
  have z0 := str_one h0
  have z1 := int_sub Tryz.underlying3 cells3 h1
  have y0 : cs[o * 2 + 0]? = some (str r.1) := sub_get rfl 0 _ z0
  rw [Nat.add_zero] at y0
  exact ⟨y0, sub_get rfl 1 _ z1⟩
theorem flat_get : ∀ (l : List (By × Nat)) (cs : List Value), (∀ (o : Nat) (r : By × Nat), l[o]? = some r → cs[o * 2]? = some (str r.1) ∧ cs[o * 2 + 1]? = some (.int .i64 (r.2 : Int))) → ∀ (j : Nat) (v : Value), (l.flatMap fun x => [str x.1, .int .i64 (x.2 : Int)])[j]? = some v → cs[j]? = some v
  | [], cs, h, j, v, hv => by simp at hv
  | x :: l, cs, h, 0, v, hv => by
    have := (h 0 x rfl).1
    simp at hv
    subst hv
    exact this
  | x :: l, cs, h, 1, v, hv => by
    have := (h 0 x rfl).2
    simp at hv
    subst hv
    exact this
  | x :: l, cs, h, j + 2, v, hv => by
    have ih := flat_get l (cs.drop 2) (fun o r hr => by
      have := h (o + 1) r (by simpa using hr)
      rw [List.getElem?_drop, List.getElem?_drop]
      rw [show 2 + o * 2 = (o + 1) * 2 by omega, show 2 + (o * 2 + 1) = (o + 1) * 2 + 1 by omega]
      exact this) j v (by simpa using hv)
    rw [List.getElem?_drop, Nat.add_comm] at ih
    exact ih
theorem starE : "*" ++ "errors.errorString" = "*errors.errorString" := by decide
theorem row204 (u : TypeId) (h : Tryz.prog.typeName? 3 u = some "*errors.errorString") : u = 204 :=
  typeName_ptr_named (nm := "errors.errorString") (by rw [starE]; kernel_rfl) (by kernel_rfl) (by decide) u (by rw [starE]; exact h)
theorem tSyn : (Tryz.prog.globals[9]?).map (·.type) = some 25 := by kernel_rfl
theorem tRng : (Tryz.prog.globals[10]?).map (·.type) = some 25 := by kernel_rfl
theorem tPow : (Tryz.prog.globals[4]?).map (·.type) = some 177 := by kernel_rfl

set_option maxRecDepth 100000 in
theorem env_of {W : World} (hR : laidMetH Tryz.prog laidR W) (hsh : W.ShapedOpen Tryz.prog) : EnvW 11 W := by
  have h := (laidMetH_iff.1 hR).1
  rw [laidR_P] at h
  have h1 := h.filter (fun x => x.1 == "bloomery/tree.marks")
  rw [show laidP.filter (fun x => x.1 == "bloomery/tree.marks") = [("bloomery/tree.marks", Rows.laid_bloomery_tree_marks)] by kernel_rfl] at h1
  have h2 := h.filter (fun x => x.1 == "bloomery/tree.pairs")
  rw [show laidP.filter (fun x => x.1 == "bloomery/tree.pairs") = [("bloomery/tree.pairs", Rows.laid_bloomery_tree_pairs)] by kernel_rfl] at h2
  have h3 := h.filter (fun x => x.1 == "internal/strconv.uint64pow10")
  rw [show laidP.filter (fun x => x.1 == "internal/strconv.uint64pow10") = [("internal/strconv.uint64pow10", Lib.tabData .u64 Lib.pow10Tab)] by kernel_rfl] at h3
  have h4 := h.filter (fun x => x.1 == "strconv.ErrSyntax")
  rw [show laidP.filter (fun x => x.1 == "strconv.ErrSyntax") = [("strconv.ErrSyntax", .iface "*errors.errorString" (.ptr (.agg [.lit (.string [105, 110, 118, 97, 108, 105, 100, 32, 115, 121, 110, 116, 97, 120])])))] by kernel_rfl] at h4
  have h5 := h.filter (fun x => x.1 == "strconv.ErrRange")
  rw [show laidP.filter (fun x => x.1 == "strconv.ErrRange") = [("strconv.ErrRange", .iface "*errors.errorString" (.ptr (.agg [.lit (.string [118, 97, 108, 117, 101, 32, 111, 117, 116, 32, 111, 102, 32, 114, 97, 110, 103, 101])])))] by kernel_rfl] at h5
  obtain ⟨_, ⟨g0, t0, cs0, f0, p0, q0, hg0, ht0, hv0, hd0, _, _⟩, _, _⟩ := h1
  obtain rfl := Option.some.inj (gMarks.symm.trans hg0)
  obtain rfl := Option.some.inj (tMarks.symm.trans ht0)
  rw [marksD] at hd0
  have c0 : ∀ i, W.cell? ⟨1, i, none⟩ = cs0.toList[i]? := fun i => by rw [World.var?_cell hg0 hv0 i]; simp
  obtain ⟨_, ⟨g1, t1, cs1, f1, p1, q1, hg1, ht1, hv1, hd1, _, _⟩, _, _⟩ := h2
  obtain rfl := Option.some.inj (gPairs.symm.trans hg1)
  obtain rfl := Option.some.inj (tPairs.symm.trans ht1)
  rw [pairsD] at hd1
  have c1 : ∀ i, W.cell? ⟨2, i, none⟩ = cs1.toList[i]? := fun i => by rw [World.var?_cell hg1 hv1 i]; simp
  obtain ⟨a4, s4, v4, _⟩ := laid_sentinel h4 gSyn tSyn Tryz.underlying25 row204 Tryz.underlying204 Tryz.underlying206 rfl rfl Tryz.underlying9 cells206 cells9
  obtain ⟨a5, s5, v5, _⟩ := laid_sentinel h5 gRng tRng Tryz.underlying25 row204 Tryz.underlying204 Tryz.underlying206 rfl rfl Tryz.underlying9 cells206 cells9
  have he : Env W := ⟨Go.Proofs.cell_of_shapedOpen_int (zero := #[.int .i64 0]) (t := 3) hsh (of_decide_eq_true (by kernel_rfl)) (by kernel_rfl) rfl (by kernel_rfl) (by kernel_rfl) Tryz.underlying3,
    fun j v hv => by rw [Nat.zero_add, c0]; exact mark_cells hd0 j v hv, fun j v hv => by rw [Nat.zero_add, c1]; exact flat_get pairsL _ (pair_cells hd1) j v hv, ⟨_, _, v4⟩, ⟨_, _, v5⟩⟩
  exact ⟨he, Lib.tabIs_of_head gPow tPow Tryz.underlying177 Tryz.underlying167 (by kernel_rfl) (by kernel_rfl) h3, Nat.le_refl _, he.lt⟩
end Go.Proofs.YtpakgaegckkmnaaGreatDoor
