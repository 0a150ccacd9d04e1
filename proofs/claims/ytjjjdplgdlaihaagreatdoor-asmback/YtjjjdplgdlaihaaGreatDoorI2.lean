/- The iterator that lines hands back, walked: whatever the loop's body is. -/
import Derived.RangeFuncNested
import Derived.RangeFuncBound
import Derived.RangeFuncCalls
import Derived.RangeFuncLeaves
import Derived.Shelf.Abstract
import Derived.Shelf.RegionOpen
import Derived.WalkKit
import Derived.OwnWalkIn
import Derived.TacticsInMore
import Derived.LoopNIn
import Derived.LoopIn
import Derived.Test.YtjjjdplgdlaihaaGreatDoorI0
import Derived.Test.YtjjjdplgdlaihaaGreatDoorI1
namespace Go.Proofs.YtjjjdplgdlaihaaGreatDoor
open Go Go.RowKit Go.Shelf
attribute [local go_sem] Oper.semAt_some

theorem trim_any (s : ByteArray) (w : World) (hs : s.size < 4294967281) :
    Calls Tryz.prog 21 #[.string s, .string ⟨#[32]⟩] w fun e w' => e = .returned (str (trimV s.data.toList)) ∧ ∃ n, w' = w.drewN n :=
  (Tryz.strings_Trim_one s 32 (by decide) w (by omega)).mono fun e w' ⟨a, b⟩ => ⟨a, by
    rcases b with rfl | rfl
    · exact ⟨0, rfl⟩
    · exact ⟨1, rfl⟩⟩

theorem grown_drewN (w : World) (n : Nat) : w.grownBy (w.drewN n) none := ⟨rfl, rfl, rfl, Nat.le_refl _, fun _ _ _ => rfl⟩

/-- What the iterator knows between two rounds. -/
structure LnSt (s : By) (n₀ : Nat) (W : World) (J : List Ln → World → Prop) (k : Nat) (line rest : By) (more : Bool) (wr : World) : Prop where
  cut : (splitC 10 s).drop k = line :: (if more then splitC 10 rest else [])
  len1 : line.length ≤ s.length
  len2 : rest.length ≤ s.length
  inv : J (upto s k) wr
  low : Below n₀ W wr

theorem cut_bound (s : By) : (cutC 10 s).1.length ≤ s.length ∧ (cutC 10 s).2.1.length ≤ s.length := by
  have := cutC_len 10 s
  omega

set_option maxRecDepth 100000 in
set_option maxHeartbeats 2000000 in
theorem lines1_in (n : Nat) (hn : 1 ≤ n) (l Bs n₀ : Nat) (s : ByteArray) (hs : s.size < 4294967280) (J Jx : List Ln → World → Prop) (W : World) (hJa : AbidesFrom W.heap.size J) (hE : ∀ W', Below n₀ W W' → Env W')
    (hY : ∀ pre x W1, J pre W1 → pre.length < (splitC 10 s.data.toList).length → YieldAt Fence.wide (n - 1) Tryz.prog l (lnEnc x) W1 fun e W' => (e = .returned (.bool true) ∧ J (pre ++ [x]) W' ∧ Below n₀ W1 W') ∨ (e = .returned (.bool false) ∧ Jx (pre ++ [x]) W'))
    (hBs : W.cell? ⟨Bs, 0, none⟩ = some (.string s)) (h0 : J [] W) :
    CallsIn Fence.wide n Tryz.prog 58 #[.func (.yield l) #[] #[], .pointer (some ⟨Bs, 0, none⟩)] W fun e W' => (∃ v, e = .returned v) ∧
      ((∃ ys, ys = upto s.data.toList (splitC 10 s.data.toList).length ∧ J ys W') ∨ (∃ pre, pre <+: upto s.data.toList (splitC 10 s.data.toList).length ∧ Jx pre W')) := by
  have hsl : s.data.toList.length = s.size := by simp
  have HC : Hid (Calls Tryz.prog 59 #[.string s, .string ⟨#[10]⟩] W fun e w' => e = .returned (.tuple #[str (cutC 10 s.data.toList).1, str (cutC 10 s.data.toList).2.1, .bool (cutC 10 s.data.toList).2.2]) ∧ ∃ n, w' = W.drewN n) := cut_any s 10 W (hE W (Below.refl _ _)) (by omega)
  have hsp := split_cut s.data.toList
  obtain ⟨hb1, hb2⟩ := cut_bound s.data.toList
  have hN0 := split_len 10 s.data.toList
  generalize s.data.toList = S at *
  generalize (cutC 10 S).1 = line0 at *
  generalize (cutC 10 S).2.1 = rest0 at *
  generalize (cutC 10 S).2.2 = more0 at *
  have HS0 : Hid (∀ m, LnSt S n₀ W J 0 line0 rest0 more0 (W.drewN m)) := fun m => ⟨hsp, hb1, hb2, hJa _ _ _ none h0 (grown_drewN W m) (fun r e => by cases e), below_drewN (Below.refl _ _) m⟩
  obtain ⟨N, hN⟩ : ∃ N, N = (splitC 10 S).length := ⟨_, rfl⟩
  rw [← hN] at hY hN0 ⊢
  have HSL : Hid (S.length = s.size) := hsl
  have HN : Hid (N = (splitC 10 S).length) := hN
  have HJ : Hid (AbidesFrom W.heap.size J) := hJa
  have HE : Hid (∀ W', Below n₀ W W' → Env W') := hE
  have HY : Hid (∀ pre x W1, J pre W1 → pre.length < N → YieldAt Fence.wide (n - 1) Tryz.prog l (lnEnc x) W1 fun e W' => (e = .returned (.bool true) ∧ J (pre ++ [x]) W' ∧ Below n₀ W1 W') ∨ (e = .returned (.bool false) ∧ Jx (pre ++ [x]) W')) := hY
  have hNb : N < 4294967282 := by omega
  clear hsl hsp hb1 hb2 hN0 hN hJa hE hY h0
  refine callsIn_of_wp Tryz.func58 rfl trivial ?_ rfl
  simp only [Tryz.ntmps58, List.size_toArray, List.length_cons, List.length_nil, Nat.reduceAdd, Nat.reduceSub, Array.replicate_succ, Array.replicate_zero, List.push_toArray, List.append_toArray, List.nil_append, List.cons_append]
  gi_wp2_with (refine ⟨trivial, ?_⟩; gi_at_call 59; refine (callsIn_wide.2 HC.out).mono ?_; rintro e w1 ⟨rfl, m0, rfl⟩)
  gi_loopw [3, 4, 5, 6] (fun v3 v4 v5 v6 wr => ∃ (k : Nat) (line rest : By) (more : Bool), v3 = str line ∧ v4 = str rest ∧ v5 = .bool more ∧ v6 = .int .i64 k ∧ k < N ∧ Hid (LnSt S n₀ W J k line rest more wr)) (fun _ _ _ v6 _ => N - (intOf v6).toNat)
  case atStart =>
    refine ⟨0, line0, rest0, more0, rfl, rfl, rfl, rfl, ?_, HS0.out m0⟩
    rw [HN.out]
    exact (List.length_pos_iff.2 (splitC_ne 10 S))
  case round =>
    obtain ⟨k, line, rest, more, rfl, rfl, rfl, rfl, hk, HL⟩ := hrel
    have hkb : k < 4294967281 := by omega
    have hkN : k < (splitC 10 S).length := by rw [← HN.out]; exact hk
    have hsz := HSL.out
    have h1 := HL.out.len1
    have h2 := HL.out.len2
    have hlb : line.length < 4294967281 := by omega
    have hrb : rest.length < 4294967281 := by omega
    have hcons := List.drop_eq_getElem_cons hkN
    have hcut := HL.out.cut
    rw [hcons] at hcut
    injection hcut with hget htl
    have hxe : lnEnc (lnAt S k) = #[.int .i64 (k : Int), str (trimV line)] := by
      unfold lnEnc
      rw [lnAt_is S (by omega) k hkN, hget]
    have HT : Hid (Calls Tryz.prog 21 #[str line, .string ⟨#[32]⟩] wr fun e w' => e = .returned (str (trimV line)) ∧ ∃ n, w' = wr.drewN n) := trim_any ⟨line.toArray⟩ wr (by rw [str_size]; exact hlb)
    have HYk : Hid (∀ m, YieldAt Fence.wide (n - 1) Tryz.prog l #[.int .i64 (k : Int), str (trimV line)] (wr.drewN m) fun e W' => (e = .returned (.bool true) ∧ J (upto S (k + 1)) W' ∧ Below n₀ (wr.drewN m) W') ∨ (e = .returned (.bool false) ∧ Jx (upto S (k + 1)) W')) := fun m => by
      have := HY.out (upto S k) (lnAt S k) (wr.drewN m) (HJ.out _ _ _ none HL.out.inv (grown_drewN wr m) (fun r e => by cases e)) (by rw [upto_length]; exact hk)
      rw [hxe, ← upto_succ] at this
      exact this
    have HT2 : Hid ((splitC 10 S).drop (k + 1) = if more then splitC 10 rest else []) := htl
    have HB2 : Hid (∀ m W3, Below n₀ (wr.drewN m) W3 → Below n₀ W W3) := fun m W3 h => (below_drewN HL.out.low m).trans h
    clear hkN hsz h1 h2 hcons hget htl hxe
    obtain ⟨tl, htl⟩ : ∃ tl, tl = trimV line := ⟨_, rfl⟩
    rw [← htl] at HT HYk
    clear htl
    gi_wp2_with (refine ⟨trivial, ?_⟩; gi_at_call 21; refine (callsIn_wide.2 HT.out).mono ?_; rintro e w1 ⟨rfl, m, rfl⟩; obtain ⟨fn, tmps, assign, body, hy, hR⟩ := HYk.out m)
    refine hR.mono ?_
    rintro e W3 (⟨rfl, hJ3, hk3⟩ | ⟨rfl, hJx3⟩)
    · have HB3 : Hid (Below n₀ W W3) := HB2.out m W3 hk3
      have HJ3 : Hid (J (upto S (k + 1)) W3) := hJ3
      clear hJ3 hk3 hy
      cases more with
      | false =>
        have hN1 : k + 1 = N := by
          have := congrArg List.length HT2.out
          simp at this
          have := HN.out
          omega
        gi_wp2
        go_end0
        exact ⟨⟨_, rfl⟩, .inl ⟨_, by rw [hN1], HJ3.out⟩⟩
      | true =>
        have HC3 : Hid (Calls Tryz.prog 59 #[str rest, .string ⟨#[10]⟩] W3 fun e w' => e = .returned (.tuple #[str (cutC 10 rest).1, str (cutC 10 rest).2.1, .bool (cutC 10 rest).2.2]) ∧ ∃ n, w' = W3.drewN n) := cut_any ⟨rest.toArray⟩ 10 W3 (HE.out _ HB3.out) (by rw [str_size]; exact hrb)
        have hc2 := cut_bound rest
        have HN3 : Hid (∀ m3, LnSt S n₀ W J (k + 1) (cutC 10 rest).1 (cutC 10 rest).2.1 (cutC 10 rest).2.2 (W3.drewN m3)) := fun m3 => ⟨by rw [HT2.out, if_pos rfl]; exact split_cut rest, Nat.le_trans hc2.1 HL.out.len2, Nat.le_trans hc2.2 HL.out.len2, HJ.out _ _ _ none HJ3.out (grown_drewN W3 m3) (fun r e => by cases e), below_drewN HB3.out m3⟩
        have hN1 : k + 1 < N := by
          have := congrArg List.length HT2.out
          rw [if_pos rfl] at this
          have h0 := (List.length_pos_iff.2 (splitC_ne 10 rest))
          simp at this
          have := HN.out
          omega
        clear hc2
        generalize (cutC 10 rest).1 = line1 at *
        generalize (cutC 10 rest).2.1 = rest1 at *
        generalize (cutC 10 rest).2.2 = more1 at *
        gi_wp2_with (refine ⟨trivial, ?_⟩; gi_at_call 59; refine (callsIn_wide.2 HC3.out).mono ?_; rintro e w1 ⟨rfl, m3, rfl⟩)
        go_roundw
        case rel => exact ⟨k + 1, line1, rest1, more1, rfl, rfl, rfl, by go_num, hN1, HN3.out m3⟩
        case measure => simp [intOf]; omega
    · gi_wp2
      go_end0
      exact ⟨⟨_, rfl⟩, .inr ⟨_, upto_take S N (k + 1) (by omega), hJx3⟩⟩

/-- What lines hands back gives the lines, one by one, to whatever body keeps what lay below n₀. -/
theorem lines_stops (n : Nat) (hn : 1 ≤ n) (Bs n₀ : Nat) (s : ByteArray) (hs : s.size < 4294967280) (w : World) (hBs : Bs < w.heap.size) (hn₀ : n₀ ≤ w.heap.size) (hc : w.cell? ⟨Bs, 0, none⟩ = some (.string s)) (hE : ∀ W', Below n₀ w W' → Env W') :
    SeqStopsK Fence.wide n Tryz.prog 58 #[.pointer (some ⟨Bs, 0, none⟩)] lnEnc (Below n₀) (fun ys => ys = upto s.data.toList (splitC 10 s.data.toList).length) (fun pre => pre <+: upto s.data.toList (splitC 10 s.data.toList).length) (splitC 10 s.data.toList).length w := fun l J Jx W hW hJ _ hY h0 =>
  lines1_in n hn l Bs n₀ s hs J Jx W hJ (fun W' h => hE W' ((hW.mono hn₀).trans h)) hY ((hW.cell (p := ⟨Bs, 0, none⟩) hBs).trans hc) h0
end Go.Proofs.YtjjjdplgdlaihaaGreatDoor
