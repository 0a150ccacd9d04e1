/- Plain: how far the parts of a line are read, letter by letter. lines: the iterator's closure. The iterator that lines hands back, walked: whatever the loop's body is. Drafts in memory, and what is known of them behind so many lines. Plain: a text's lines and drafts, one by one, up to the first fault. -/
import Derived.Test.YtjjjdplgdlaihaaGreatDoorMH
import Derived.Test.YtjjjdplgdlaihaaGreatDoorD4
import Derived.Test.YtjjjdplgdlaihaaGreatDoorB8
import Derived.RangeFuncNested
import Derived.RangeFuncBound
import Derived.RangeFuncCalls
import Derived.RangeFuncLeaves
import Derived.Shelf.Abstract
import Derived.Shelf.RegionOpen
import Derived.WalkKit
import Derived.OwnWalkIn
import Derived.TacticsInMore
import Derived.LoopNIn
import Derived.LoopIn
import Derived.Test.YtjjjdplgdlaihaaGreatDoorMG
import Derived.Test.YtjjjdplgdlaihaaGreatDoorMF
namespace Go.Proofs.YtjjjdplgdlaihaaGreatDoor
set_option linter.unusedVariables false
set_option linter.unusedSimpArgs false
open Go

/-- How far the parts are read: what lies in memory of it (of an instruction with a PLACE the number is whatever). -/
def StR : Option Dr → Int → Int → Int → Int → Int → By → Bool → Prop
  | some D, o, d, a, b, n, t, ob => ob = true ∧ D.o = o ∧ D.d = d ∧ D.a = a ∧ D.b = b ∧ D.pl = t ∧ (t = [] → D.n = n)
  | none, _, _, _, _, _, _, ob => ob = false
theorem stR_none {F : Option Dr} {f : Dr → Option Dr} {o d a b n d' a' b' n' : Int} {t t' : By} (h : StR F o d a b n t false) : StR (F.bind f) o d' a' b' n' t' false := by
  cases F with
  | none => rfl
  | some D => cases h.1
theorem stR_bad {F : Option Dr} {f : Dr → Option Dr} {o d' a' b' n' : Int} {t' : By} (hf : ∀ D, f D = none) : StR (F.bind f) o d' a' b' n' t' false := by
  cases F with
  | none => rfl
  | some D => show StR (f D) _ _ _ _ _ _ _; rw [hf]; rfl
theorem stR_d {F : Option Dr} {p t : By} {o d a b n : Int} {ob : Bool} (h : StR F o d a b n t ob) : StR (F.bind (takeV 100 p)) o ((rgsV p).getD 0) a b n t (ob && (rgsV p).isSome) := by
  cases F with
  | none => have h : ob = false := h; rw [h]; rfl
  | some D =>
    obtain ⟨rfl, h1, h2, h3, h4, h5, h6⟩ := h
    show StR (takeV 100 p D) _ _ _ _ _ _ _
    rw [takeV, if_pos rfl]
    cases rgsV p with
    | none => rfl
    | some r => exact ⟨rfl, h1, rfl, h3, h4, h5, h6⟩
theorem stR_a {F : Option Dr} {p t : By} {o d a b n : Int} {ob : Bool} (h : StR F o d a b n t ob) : StR (F.bind (takeV 97 p)) o d ((rgsV p).getD 0) b n t (ob && (rgsV p).isSome) := by
  cases F with
  | none => have h : ob = false := h; rw [h]; rfl
  | some D =>
    obtain ⟨rfl, h1, h2, h3, h4, h5, h6⟩ := h
    show StR (takeV 97 p D) _ _ _ _ _ _ _
    rw [takeV, if_neg (by decide), if_pos rfl]
    cases rgsV p with
    | none => rfl
    | some r => exact ⟨rfl, h1, h2, rfl, h4, h5, h6⟩
theorem stR_b {F : Option Dr} {p t : By} {o d a b n : Int} {ob : Bool} (h : StR F o d a b n t ob) : StR (F.bind (takeV 98 p)) o d a ((rgsV p).getD 0) n t (ob && (rgsV p).isSome) := by
  cases F with
  | none => have h : ob = false := h; rw [h]; rfl
  | some D =>
    obtain ⟨rfl, h1, h2, h3, h4, h5, h6⟩ := h
    show StR (takeV 98 p D) _ _ _ _ _ _ _
    rw [takeV, if_neg (by decide), if_neg (by decide), if_pos rfl]
    cases rgsV p with
    | none => rfl
    | some r => exact ⟨rfl, h1, h2, h3, rfl, h5, h6⟩
theorem take_n_eq (p : By) (D : Dr) : takeV 110 p D = (numV p).map fun n => { D with n := n } := by
  rw [takeV, if_neg (by decide), if_neg (by decide), if_neg (by decide), if_neg (by decide), if_neg (fun h => absurd h.1 (by decide))]
theorem take_t_eq (p : By) (D : Dr) : takeV 58 p D = if nameV p = true then some { D with pl := p } else (numV p).map fun n => { D with n := n } := by
  rw [takeV, if_neg (by decide), if_neg (by decide), if_neg (by decide), if_neg (by decide)]
  by_cases h : nameV p = true
  · rw [if_pos ⟨rfl, h⟩, if_pos h]
  · rw [if_neg (fun e => h e.2), if_neg h]
theorem stR_n {F : Option Dr} {p t : By} {o d a b n v : Int} {ob : Bool} (hv : numV p = some v) (h : StR F o d a b n t ob) : StR (F.bind (takeV 110 p)) o d a b v t ob := by
  cases F with
  | none => exact h
  | some D =>
    obtain ⟨rfl, h1, h2, h3, h4, h5, h6⟩ := h
    show StR (takeV 110 p D) _ _ _ _ _ _ _
    rw [take_n_eq, hv]
    exact ⟨rfl, h1, h2, h3, h4, h5, fun _ => rfl⟩
theorem stR_n_no {F : Option Dr} {p t : By} {o d a b x : Int} (hv : numV p = none) : StR (F.bind (takeV 110 p)) o d a b x t false :=
  stR_bad fun D => by rw [take_n_eq, hv]; rfl
/-- A number is no PLACE. -/
theorem num_name {p : By} {v : Int} (h : numV p = some v) : nameV p = false := by
  rw [← (numV_split h).2]
  exact itoa_noname v
theorem stR_t {F : Option Dr} {p t : By} {o d a b n v : Int} {ob : Bool} (hv : numV p = some v) (h : StR F o d a b n t ob) : StR (F.bind (takeV 58 p)) o d a b v t ob := by
  cases F with
  | none => exact h
  | some D =>
    obtain ⟨rfl, h1, h2, h3, h4, h5, h6⟩ := h
    show StR (takeV 58 p D) _ _ _ _ _ _ _
    rw [take_t_eq, if_neg (by rw [num_name hv]; decide), hv]
    exact ⟨rfl, h1, h2, h3, h4, h5, fun _ => rfl⟩
theorem stR_t_pl {F : Option Dr} {p t : By} {o d a b n x : Int} {ob : Bool} (hv : nameV p = true) (h : StR F o d a b n t ob) : StR (F.bind (takeV 58 p)) o d a b x p ob := by
  cases F with
  | none => exact h
  | some D =>
    obtain ⟨rfl, h1, h2, h3, h4, h5, h6⟩ := h
    show StR (takeV 58 p D) _ _ _ _ _ _ _
    rw [take_t_eq, if_pos hv]
    refine ⟨rfl, h1, h2, h3, h4, rfl, fun e => ?_⟩
    rw [e] at hv
    exact absurd hv (by decide)
theorem stR_t_no {F : Option Dr} {p t : By} {o d a b x : Int} (hv : numV p = none) (hn : nameV p = false) : StR (F.bind (takeV 58 p)) o d a b x t false :=
  stR_bad fun D => by rw [take_t_eq, if_neg (by rw [hn]; decide), hv]; rfl
theorem take_m_eq (p : By) (D : Dr) : takeV 40 p D = memV (cutC 40 p).1 (cutC 40 p).2.1 D := by
  rw [takeV, if_neg (by decide), if_neg (by decide), if_neg (by decide), if_pos rfl]
theorem stR_m {F : Option Dr} {p t q r : By} {o d a b n v : Int} {z : Bool} {ob : Bool} (hc : cutC 40 p = (q, r, z)) (hr : r.getLast? = some 41) (hv : numV q = some v) (h : StR F o d a b n t ob) : StR (F.bind (takeV 40 p)) o d ((rgsV r.dropLast).getD 0) b v t (ob && (rgsV r.dropLast).isSome) := by
  cases F with
  | none => have h : ob = false := h; rw [h]; rfl
  | some D =>
    obtain ⟨rfl, h1, h2, h3, h4, h5, h6⟩ := h
    show StR (takeV 40 p D) _ _ _ _ _ _ _
    rw [take_m_eq, hc]
    dsimp only
    rw [memV_some hr hv]
    cases rgsV r.dropLast with
    | none => rfl
    | some x => exact ⟨rfl, h1, h2, rfl, h4, h5, fun _ => rfl⟩
theorem stR_m_no {F : Option Dr} {p t q r : By} {o d a b x : Int} {z : Bool} (hc : cutC 40 p = (q, r, z)) (hv : r.getLast? ≠ some 41 ∨ numV q = none) : StR (F.bind (takeV 40 p)) o d a b x t false :=
  stR_bad fun D => by
    rw [take_m_eq, hc]
    dsimp only
    by_cases hr : r.getLast? = some 41
    · rcases hv with hv | hv
      · exact absurd hr hv
      · exact memV_none hr hv
    · exact memV_no hr
/-- What is at fault so far is at fault. -/
theorem fold_drop : ∀ (ks : By) (ps : List By) (d : Dr) (i : Nat), ks.length = ps.length → foldT (ks.take i) (ps.take i) d = none → foldT ks ps d = none
  | ks, ps, d, 0, _, h => by simp [foldT] at h
  | [], [], d, i + 1, _, h => by simpa using h
  | [], _ :: _, _, _, h, _ => by simp at h
  | _ :: _, [], _, _, h, _ => by simp at h
  | k :: ks, p :: ps, d, i + 1, hl, h => by
    rw [List.take_succ_cons, List.take_succ_cons, foldT] at h
    rw [foldT]
    cases ht : takeV k p d with
    | none => rfl
    | some d' =>
      rw [ht] at h
      exact fold_drop ks ps d' i (by simpa using hl) h
theorem last_cut (l : By) (k : Nat) (hk : l.drop k = 40 :: l.drop (k + 1)) : (l.drop (k + 1)).getLast? = some 41 ↔ l.getLast? = some 41 := by
  have e : l = l.take k ++ (40 :: l.drop (k + 1)) := by rw [← hk, List.take_append_drop]
  generalize l.drop (k + 1) = t at *
  generalize l.take k = u at *
  subst e
  rw [List.getLast?_append]
  cases t with
  | nil => simp
  | cons x t =>
    rw [List.getLast?_cons_cons]
    cases h : (x :: t).getLast? with
    | none => simp at h
    | some y => simp
end Go.Proofs.YtjjjdplgdlaihaaGreatDoor

namespace Go.Proofs.YtjjjdplgdlaihaaGreatDoor
open Go Go.RowKit

theorem lines_any (s : ByteArray) (w : World) :
    Calls Tryz.prog 24 #[.string s] w fun e w' => e = .returned (.func (.func 58) #[] #[.pointer (some ⟨w.heap.size, 0, none⟩)]) ∧ w' = w.alloc (.cells #[.string s] 9) := by
  go_enter Tryz.func24, Tryz.ntmps24
  go_wp2
  go_ret
  exact ⟨rfl, rfl⟩
end Go.Proofs.YtjjjdplgdlaihaaGreatDoor

namespace Go.Proofs.YtjjjdplgdlaihaaGreatDoor
open Go Go.RowKit Go.Shelf
attribute [local go_sem] Oper.semAt_some

theorem trim_any (s : ByteArray) (w : World) (hs : s.size < 4294967281) :
    Calls Tryz.prog 21 #[.string s, .string ⟨#[32]⟩] w fun e w' => e = .returned (str (trimV s.data.toList)) ∧ ∃ n, w' = w.drewN n :=
  (Tryz.strings_Trim_one s 32 (by decide) w (by omega)).mono fun e w' ⟨a, b⟩ => ⟨a, by
    rcases b with rfl | rfl
    · exact ⟨0, rfl⟩
    · exact ⟨1, rfl⟩⟩

theorem grown_drewN (w : World) (n : Nat) : w.grownBy (w.drewN n) none := ⟨rfl, rfl, rfl, Nat.le_refl _, fun _ _ _ => rfl⟩

/-- What the iterator knows between two rounds. -/
structure LnSt (s : By) (n₀ : Nat) (W : World) (J : List Ln → World → Prop) (k : Nat) (line rest : By) (more : Bool) (wr : World) : Prop where
  cut : (splitC 10 s).drop k = line :: (if more then splitC 10 rest else [])
  len1 : line.length ≤ s.length
  len2 : rest.length ≤ s.length
  inv : J (upto s k) wr
  low : Below n₀ W wr

theorem cut_bound (s : By) : (cutC 10 s).1.length ≤ s.length ∧ (cutC 10 s).2.1.length ≤ s.length := by
  have := cutC_len 10 s
  omega

set_option maxRecDepth 100000 in
set_option maxHeartbeats 2000000 in
theorem lines1_in (n : Nat) (hn : 1 ≤ n) (l Bs n₀ : Nat) (s : ByteArray) (hs : s.size < 4294967280) (J Jx : List Ln → World → Prop) (W : World) (hJa : AbidesFrom W.heap.size J) (hE : ∀ W', Below n₀ W W' → Env W')
    (hY : ∀ pre x W1, J pre W1 → pre.length < (splitC 10 s.data.toList).length → YieldAt Fence.wide (n - 1) Tryz.prog l (lnEnc x) W1 fun e W' => (e = .returned (.bool true) ∧ J (pre ++ [x]) W' ∧ Below n₀ W1 W') ∨ (e = .returned (.bool false) ∧ Jx (pre ++ [x]) W'))
    (hBs : W.cell? ⟨Bs, 0, none⟩ = some (.string s)) (h0 : J [] W) :
    CallsIn Fence.wide n Tryz.prog 58 #[.func (.yield l) #[] #[], .pointer (some ⟨Bs, 0, none⟩)] W fun e W' => (∃ v, e = .returned v) ∧
      ((∃ ys, ys = upto s.data.toList (splitC 10 s.data.toList).length ∧ J ys W') ∨ (∃ pre, pre <+: upto s.data.toList (splitC 10 s.data.toList).length ∧ Jx pre W')) := by
  have hsl : s.data.toList.length = s.size := by simp
  have HC : Hid (Calls Tryz.prog 59 #[.string s, .string ⟨#[10]⟩] W fun e w' => e = .returned (.tuple #[str (cutC 10 s.data.toList).1, str (cutC 10 s.data.toList).2.1, .bool (cutC 10 s.data.toList).2.2]) ∧ ∃ n, w' = W.drewN n) := cut_any s 10 W (hE W (Below.refl _ _)) (by omega)
  have hsp := split_cut s.data.toList
  obtain ⟨hb1, hb2⟩ := cut_bound s.data.toList
  have hN0 := split_len 10 s.data.toList
  generalize s.data.toList = S at *
  generalize (cutC 10 S).1 = line0 at *
  generalize (cutC 10 S).2.1 = rest0 at *
  generalize (cutC 10 S).2.2 = more0 at *
  have HS0 : Hid (∀ m, LnSt S n₀ W J 0 line0 rest0 more0 (W.drewN m)) := fun m => ⟨hsp, hb1, hb2, hJa _ _ _ none h0 (grown_drewN W m) (fun r e => by cases e), below_drewN (Below.refl _ _) m⟩
  obtain ⟨N, hN⟩ : ∃ N, N = (splitC 10 S).length := ⟨_, rfl⟩
  rw [← hN] at hY hN0 ⊢
  have HSL : Hid (S.length = s.size) := hsl
  have HN : Hid (N = (splitC 10 S).length) := hN
  have HJ : Hid (AbidesFrom W.heap.size J) := hJa
  have HE : Hid (∀ W', Below n₀ W W' → Env W') := hE
  have HY : Hid (∀ pre x W1, J pre W1 → pre.length < N → YieldAt Fence.wide (n - 1) Tryz.prog l (lnEnc x) W1 fun e W' => (e = .returned (.bool true) ∧ J (pre ++ [x]) W' ∧ Below n₀ W1 W') ∨ (e = .returned (.bool false) ∧ Jx (pre ++ [x]) W')) := hY
  have hNb : N < 4294967282 := by omega
  clear hsl hsp hb1 hb2 hN0 hN hJa hE hY h0
  refine callsIn_of_wp Tryz.func58 rfl trivial ?_ rfl
  simp only [Tryz.ntmps58, List.size_toArray, List.length_cons, List.length_nil, Nat.reduceAdd, Nat.reduceSub, Array.replicate_succ, Array.replicate_zero, List.push_toArray, List.append_toArray, List.nil_append, List.cons_append]
  gi_wp2_with (refine ⟨trivial, ?_⟩; gi_at_call 59; refine (callsIn_wide.2 HC.out).mono ?_; rintro e w1 ⟨rfl, m0, rfl⟩)
  gi_loopw [3, 4, 5, 6] (fun v3 v4 v5 v6 wr => ∃ (k : Nat) (line rest : By) (more : Bool), v3 = str line ∧ v4 = str rest ∧ v5 = .bool more ∧ v6 = .int .i64 k ∧ k < N ∧ Hid (LnSt S n₀ W J k line rest more wr)) (fun _ _ _ v6 _ => N - (intOf v6).toNat)
  case atStart =>
    refine ⟨0, line0, rest0, more0, rfl, rfl, rfl, rfl, ?_, HS0.out m0⟩
    rw [HN.out]
    exact (List.length_pos_iff.2 (splitC_ne 10 S))
  case round =>
    obtain ⟨k, line, rest, more, rfl, rfl, rfl, rfl, hk, HL⟩ := hrel
    have hkb : k < 4294967281 := by omega
    have hkN : k < (splitC 10 S).length := by rw [← HN.out]; exact hk
    have hsz := HSL.out
    have h1 := HL.out.len1
    have h2 := HL.out.len2
    have hlb : line.length < 4294967281 := by omega
    have hrb : rest.length < 4294967281 := by omega
    have hcons := List.drop_eq_getElem_cons hkN
    have hcut := HL.out.cut
    rw [hcons] at hcut
    injection hcut with hget htl
    have hxe : lnEnc (lnAt S k) = #[.int .i64 (k : Int), str (trimV line)] := by
      unfold lnEnc
      rw [lnAt_is S (by omega) k hkN, hget]
    have HT : Hid (Calls Tryz.prog 21 #[str line, .string ⟨#[32]⟩] wr fun e w' => e = .returned (str (trimV line)) ∧ ∃ n, w' = wr.drewN n) := trim_any ⟨line.toArray⟩ wr (by rw [str_size]; exact hlb)
    have HYk : Hid (∀ m, YieldAt Fence.wide (n - 1) Tryz.prog l #[.int .i64 (k : Int), str (trimV line)] (wr.drewN m) fun e W' => (e = .returned (.bool true) ∧ J (upto S (k + 1)) W' ∧ Below n₀ (wr.drewN m) W') ∨ (e = .returned (.bool false) ∧ Jx (upto S (k + 1)) W')) := fun m => by
      have := HY.out (upto S k) (lnAt S k) (wr.drewN m) (HJ.out _ _ _ none HL.out.inv (grown_drewN wr m) (fun r e => by cases e)) (by rw [upto_length]; exact hk)
      rw [hxe, ← upto_succ] at this
      exact this
    have HT2 : Hid ((splitC 10 S).drop (k + 1) = if more then splitC 10 rest else []) := htl
    have HB2 : Hid (∀ m W3, Below n₀ (wr.drewN m) W3 → Below n₀ W W3) := fun m W3 h => (below_drewN HL.out.low m).trans h
    clear hkN hsz h1 h2 hcons hget htl hxe
    obtain ⟨tl, htl⟩ : ∃ tl, tl = trimV line := ⟨_, rfl⟩
    rw [← htl] at HT HYk
    clear htl
    gi_wp2_with (refine ⟨trivial, ?_⟩; gi_at_call 21; refine (callsIn_wide.2 HT.out).mono ?_; rintro e w1 ⟨rfl, m, rfl⟩; obtain ⟨fn, tmps, assign, body, hy, hR⟩ := HYk.out m)
    refine hR.mono ?_
    rintro e W3 (⟨rfl, hJ3, hk3⟩ | ⟨rfl, hJx3⟩)
    · have HB3 : Hid (Below n₀ W W3) := HB2.out m W3 hk3
      have HJ3 : Hid (J (upto S (k + 1)) W3) := hJ3
      clear hJ3 hk3 hy
      cases more with
      | false =>
        have hN1 : k + 1 = N := by
          have := congrArg List.length HT2.out
          simp at this
          have := HN.out
          omega
        gi_wp2
        go_end0
        exact ⟨⟨_, rfl⟩, .inl ⟨_, by rw [hN1], HJ3.out⟩⟩
      | true =>
        have HC3 : Hid (Calls Tryz.prog 59 #[str rest, .string ⟨#[10]⟩] W3 fun e w' => e = .returned (.tuple #[str (cutC 10 rest).1, str (cutC 10 rest).2.1, .bool (cutC 10 rest).2.2]) ∧ ∃ n, w' = W3.drewN n) := cut_any ⟨rest.toArray⟩ 10 W3 (HE.out _ HB3.out) (by rw [str_size]; exact hrb)
        have hc2 := cut_bound rest
        have HN3 : Hid (∀ m3, LnSt S n₀ W J (k + 1) (cutC 10 rest).1 (cutC 10 rest).2.1 (cutC 10 rest).2.2 (W3.drewN m3)) := fun m3 => ⟨by rw [HT2.out, if_pos rfl]; exact split_cut rest, Nat.le_trans hc2.1 HL.out.len2, Nat.le_trans hc2.2 HL.out.len2, HJ.out _ _ _ none HJ3.out (grown_drewN W3 m3) (fun r e => by cases e), below_drewN HB3.out m3⟩
        have hN1 : k + 1 < N := by
          have := congrArg List.length HT2.out
          rw [if_pos rfl] at this
          have h0 := (List.length_pos_iff.2 (splitC_ne 10 rest))
          simp at this
          have := HN.out
          omega
        clear hc2
        generalize (cutC 10 rest).1 = line1 at *
        generalize (cutC 10 rest).2.1 = rest1 at *
        generalize (cutC 10 rest).2.2 = more1 at *
        gi_wp2_with (refine ⟨trivial, ?_⟩; gi_at_call 59; refine (callsIn_wide.2 HC3.out).mono ?_; rintro e w1 ⟨rfl, m3, rfl⟩)
        go_roundw
        case rel => exact ⟨k + 1, line1, rest1, more1, rfl, rfl, rfl, by go_num, hN1, HN3.out m3⟩
        case measure => simp [intOf]; omega
    · gi_wp2
      go_end0
      exact ⟨⟨_, rfl⟩, .inr ⟨_, upto_take S N (k + 1) (by omega), hJx3⟩⟩

/-- What lines hands back gives the lines, one by one, to whatever body keeps what lay below n₀. -/
theorem lines_stops (n : Nat) (hn : 1 ≤ n) (Bs n₀ : Nat) (s : ByteArray) (hs : s.size < 4294967280) (w : World) (hBs : Bs < w.heap.size) (hn₀ : n₀ ≤ w.heap.size) (hc : w.cell? ⟨Bs, 0, none⟩ = some (.string s)) (hE : ∀ W', Below n₀ w W' → Env W') :
    SeqStopsK Fence.wide n Tryz.prog 58 #[.pointer (some ⟨Bs, 0, none⟩)] lnEnc (Below n₀) (fun ys => ys = upto s.data.toList (splitC 10 s.data.toList).length) (fun pre => pre <+: upto s.data.toList (splitC 10 s.data.toList).length) (splitC 10 s.data.toList).length w := fun l J Jx W hW hJ _ hY h0 =>
  lines1_in n hn l Bs n₀ s hs J Jx W hJ (fun W' h => hE W' ((hW.mono hn₀).trans h)) hY ((hW.cell (p := ⟨Bs, 0, none⟩) hBs).trans hc) h0
end Go.Proofs.YtjjjdplgdlaihaaGreatDoor

namespace Go.Proofs.YtjjjdplgdlaihaaGreatDoor
open Go Go.RowKit

/-- Drafts' cells. -/
def dcs (ds : Drafts) : List Value := ds.flatMap fun x => (drC x.1 (x.2 : Int)).toList
theorem dcs_snoc (ds : Drafts) (d : Dr) (k : Nat) : dcs (ds ++ [(d, k)]) = dcs ds ++ (drC d k).toList := by simp [dcs]
theorem dcs_len (ds : Drafts) : (dcs ds).length = ds.length * 7 := by
  induction ds with
  | nil => rfl
  | cons x ds ih => 
    have e : dcs (x :: ds) = (drC x.1 (x.2 : Int)).toList ++ dcs ds := rfl
    have l7 : (drC x.1 (x.2 : Int)).toList.length = 7 := rfl
    rw [e, List.length_append, ih, l7, List.length_cons]
    omega
theorem dcs_at : ∀ (ds : Drafts) (i j : Nat) (d : Dr) (k : Nat), ds[i]? = some (d, k) → j < 7 → (dcs ds)[i * 7 + j]? = (drC d k).toList[j]?
  | [], i, j, d, k, h, _ => by simp at h
  | x :: ds, 0, j, d, k, h, hj => by
    have e : dcs (x :: ds) = (drC x.1 (x.2 : Int)).toList ++ dcs ds := rfl
    simp at h
    subst h
    rw [e, Nat.zero_mul, Nat.zero_add, List.getElem?_append_left (by show j < 7; exact hj)]
  | x :: ds, i + 1, j, d, k, h, hj => by
    have e : dcs (x :: ds) = (drC x.1 (x.2 : Int)).toList ++ dcs ds := rfl
    have l7 : (drC x.1 (x.2 : Int)).toList.length = 7 := rfl
    rw [e, List.getElem?_append_right (by rw [l7]; omega), l7]
    have : (i + 1) * 7 + j - 7 = i * 7 + j := by omega
    rw [this]
    exact dcs_at ds i j d k (by simpa using h) hj

theorem row_cell {w : World} {B : Nat} {e : TypeId} {size n c g : Nat} {xs : List Value} (h : w.ownsRow B e size (.slice (some ⟨g, 0, none⟩) n c) n xs) (j : Nat) (u : Value) (hj : xs[j]? = some u) : w.cell? ⟨g, j, none⟩ = some u := by
  obtain ⟨hl, h | ⟨g', cap, cur, hv, _, hh, hc1, _, hc2, ht⟩⟩ := h
  · cases h.1
  · injection hv with hv _ _
    injection hv with hv
    injection hv with hv
    subst hv
    rw [cell_of_row _ _ _ _ _ _ hh]
    rw [← ht] at hj
    rw [List.getElem?_take] at hj
    split at hj
    · rw [← Array.getElem?_toList]; exact hj
    · cases hj
theorem seven_of {w : World} {B n c g : Nat} {ds : Drafts} (h : w.ownsRow B 71 7 (.slice (some ⟨g, 0, none⟩) n c) n (dcs ds)) (i : Nat) (d : Dr) (k : Nat) (hd : ds[i]? = some (d, k)) : Seven w g (i * 7) d k := by
  have c : ∀ j, j < 7 → ∀ u, (drC d k).toList[j]? = some u → w.cell? ⟨g, i * 7 + j, none⟩ = some u := fun j hj u hu => row_cell h _ _ ((dcs_at ds i j d k hd hj).trans hu)
  exact ⟨c 0 (by omega) _ rfl, c 1 (by omega) _ rfl, c 2 (by omega) _ rfl, c 3 (by omega) _ rfl, c 4 (by omega) _ rfl, c 5 (by omega) _ rfl, c 6 (by omega) _ rfl⟩
theorem row_base {w : World} {B B' : Nat} {e : TypeId} {size n : Nat} {v : Value} {xs : List Value} (h : w.ownsRow B e size v n xs) (hb : B' ≤ B) : w.ownsRow B' e size v n xs := by
  obtain ⟨hl, h | ⟨g', cap, cur, hv, hg, r⟩⟩ := h
  · exact ⟨hl, .inl h⟩
  · exact ⟨hl, .inr ⟨g', cap, cur, hv, Nat.le_trans hb hg, r⟩⟩

theorem ins_at : ∀ (l : List Dr) (i j : Nat) (d : Dr), l[i]? = some d → j < 5 → (ins l)[i * 5 + j]? = [Value.int .i64 d.o, .int .i64 d.d, .int .i64 d.a, .int .i64 d.b, .int .i64 d.n][j]?
  | [], i, j, d, h, _ => by simp at h
  | x :: ds, 0, j, d, h, hj => by
    have e : ins (x :: ds) = [Value.int .i64 x.o, .int .i64 x.d, .int .i64 x.a, .int .i64 x.b, .int .i64 x.n] ++ ins ds := rfl
    simp at h
    subst h
    rw [e, Nat.zero_mul, Nat.zero_add, List.getElem?_append_left (by show j < 5; exact hj)]
  | x :: ds, i + 1, j, d, h, hj => by
    have e : ins (x :: ds) = [Value.int .i64 x.o, .int .i64 x.d, .int .i64 x.a, .int .i64 x.b, .int .i64 x.n] ++ ins ds := rfl
    rw [e, List.getElem?_append_right (by show 5 ≤ _; omega)]
    have : (i + 1) * 5 + j - [Value.int .i64 x.o, .int .i64 x.d, .int .i64 x.a, .int .i64 x.b, .int .i64 x.n].length = i * 5 + j := by show _ - 5 = _; omega
    rw [this]
    exact ins_at ds i j d (by simpa using h) hj
theorem ins_len (l : List Dr) : (ins l).length = l.length * 5 := by
  induction l with
  | nil => rfl
  | cons x ds ih => 
    have e : ins (x :: ds) = [Value.int .i64 x.o, .int .i64 x.d, .int .i64 x.a, .int .i64 x.b, .int .i64 x.n] ++ ins ds := rfl
    have l5 : [Value.int .i64 x.o, .int .i64 x.d, .int .i64 x.a, .int .i64 x.b, .int .i64 x.n].length = 5 := rfl
    rw [e, List.length_append, ih, l5, List.length_cons]
    omega
theorem five_of {w : World} {B n c g : Nat} {l : List Dr} (h : w.ownsRow B 39 5 (.slice (some ⟨g, 0, none⟩) n c) n (ins l)) (i : Nat) (d : Dr) (hd : l[i]? = some d) : Five w g (i * 5) d := by
  have c : ∀ j, j < 5 → ∀ u, [Value.int .i64 d.o, .int .i64 d.d, .int .i64 d.a, .int .i64 d.b, .int .i64 d.n][j]? = some u → w.cell? ⟨g, i * 5 + j, none⟩ = some u := fun j hj u hu => row_cell h _ _ ((ins_at l i j d hd hj).trans hu)
  exact ⟨c 0 (by omega) _ rfl, c 1 (by omega) _ rfl, c 2 (by omega) _ rfl, c 3 (by omega) _ rfl, c 4 (by omega) _ rfl⟩

/-- A PLACE that is read has no more than 24 letters. -/
theorem name_len {s : By} (h : nameV s = true) : s.length ≤ 24 := by
  simp only [nameV, Bool.and_eq_true, decide_eq_true_eq] at h
  exact h.1.1.2
theorem take_pl {k : UInt8} {p : By} {d d' : Dr} (h : takeV k p d = some d') (hd : d.pl.length ≤ 24) : d'.pl.length ≤ 24 := by
  unfold takeV memV at h
  repeat' split at h
  all_goals first
    | (simp only [Option.map_eq_some_iff] at h; obtain ⟨_, _, rfl⟩ := h; exact hd)
    | (cases h; rename_i hn; exact name_len hn.2)
    | (cases h)
theorem parts_pl : ∀ (ks rest : By) (d d' : Dr), partsV ks rest d = some d' → d.pl.length ≤ 24 → d'.pl.length ≤ 24
  | [], rest, d, d', h, hd => by
    rw [partsV] at h
    split at h
    · injection h with h; subst h; exact hd
    · cases h
  | c :: ks, rest, d, d', h, hd => by
    rw [parts_step] at h
    split at h
    · split at h
      · cases h
      · rename_i d1 h1
        exact parts_pl ks _ d1 d' h (take_pl h1 hd)
    · cases h
theorem read_pl {l : By} {d : Dr} (h : readV l = some d) : d.pl.length ≤ 24 := by
  unfold readV at h
  simp only at h
  split at h
  · cases h
  · exact parts_pl _ _ _ _ h (by simp)

theorem st_bounds : ∀ (n : Nat) (l : List Ln), l.length = n → ∀ ds ps, stV l = .ok (ds, ps) → ds.length ≤ n ∧ (∀ x ∈ ps, x.2 ≤ n) ∧ (∀ x ∈ ds, x.1.pl.length ≤ 24)
  | 0, l, hl, ds, ps, h => by
    obtain rfl := List.length_eq_zero_iff.1 hl
    injection h with h
    injection h with h1 h2
    subst h1; subst h2
    simp
  | n + 1, l, hl, ds, ps, h => by
    have hne : l ≠ [] := by intro e; rw [e] at hl; simp at hl
    obtain ⟨l', x, rfl⟩ : ∃ l' x, l = l' ++ [x] := ⟨l.dropLast, l.getLast hne, (List.dropLast_concat_getLast hne).symm⟩
    have hl' : l'.length = n := by simp at hl; exact hl
    rw [stV_snoc] at h
    cases hs : stV l' with
    | error e => rw [hs] at h; cases h
    | ok r =>
      obtain ⟨ds', ps'⟩ := r
      obtain ⟨b1, b2, b3⟩ := st_bounds n l' hl' ds' ps' hs
      rw [hs, stepV] at h
      split at h
      · injection h with h; injection h with h1 h2; subst h1; subst h2
        exact ⟨by omega, fun x hx => by have := b2 x hx; omega, b3⟩
      · split at h
        · split at h
          · cases h
          · split at h
            · cases h
            · injection h with h; injection h with h1 h2; subst h1; subst h2
              refine ⟨by omega, fun x hx => ?_, b3⟩
              simp at hx
              rcases hx with rfl | hx
              · show ds'.length ≤ _; omega
              · have := b2 x hx; omega
        · split at h
          · cases h
          · rename_i d hd
            injection h with h; injection h with h1 h2; subst h1; subst h2
            refine ⟨by simp; omega, fun x hx => by have := b2 x hx; omega, fun x hx => ?_⟩
            simp at hx
            rcases hx with hx | rfl
            · exact b3 x hx
            · exact read_pl hd

/-- Once at fault, at fault. -/
theorem st_prefix (s : By) (N : Nat) (pre : List Ln) (h : pre <+: upto s N) (e : Int × Nat) (he : stV pre = .error e) : stV (upto s N) = .error e := by
  obtain ⟨t, ht⟩ := h
  rw [← ht, stV, List.foldl_append]
  have : List.foldl (fun st x => stepV st x.1.1 x.1.2.data.toList) (.ok ([], [])) pre = .error e := he
  rw [this]
  clear ht this
  induction t with
  | nil => rfl
  | cons x t ih => rw [List.foldl_cons, stepV]; exact ih
end Go.Proofs.YtjjjdplgdlaihaaGreatDoor

namespace Go.Proofs.YtjjjdplgdlaihaaGreatDoor
set_option linter.unusedVariables false
open Go

/-- One draft: its instruction, or a fault. -/
def draftV (ps : Places) (i : Nat) (x : Dr × Nat) : Except (Int × Nat) Dr :=
  if x.1.pl = [] then (if rtD x.1 then .ok x.1 else .error (2, x.2))
  else match ps.lookup x.1.pl with
    | none => .error (7, x.2)
    | some j => if rtD { x.1 with n := 4 * ((j : Int) - i), pl := [] } then .ok { x.1 with n := 4 * ((j : Int) - i), pl := [] } else .error (2, x.2)
theorem fin_cons (ps : Places) (i : Nat) (x : Dr × Nat) (ds : Drafts) : finV rtD ps i (x :: ds) = match draftV ps i x with | .error e => .error e | .ok y => (finV rtD ps (i + 1) ds).map (y :: ·) := by
  obtain ⟨d, k⟩ := x
  rw [finV, draftV]
  by_cases h : d.pl = []
  · rw [if_pos h, if_pos h]
    cases rtD d <;> rfl
  · rw [if_neg h, if_neg h]
    simp only
    cases ps.lookup d.pl with
    | none => rfl
    | some j =>
      simp only
      cases rtD { d with n := 4 * ((j : Int) - i), pl := [] } <;> rfl
theorem fin_snoc (ps : Places) : ∀ (ds : Drafts) (i n : Nat) (x : Dr × Nat) (out : List Dr) (y : Dr), finV rtD ps i (ds.take n) = .ok out → ds[n]? = some x → draftV ps (i + n) x = .ok y → finV rtD ps i (ds.take (n + 1)) = .ok (out ++ [y])
  | [], i, n, x, out, y, _, h, _ => by simp at h
  | z :: ds, i, 0, x, out, y, h, hx, hy => by
    simp at hx
    subst hx
    simp only [List.take_zero, finV] at h
    injection h with h
    subst h
    simp only [List.take_succ_cons, List.take_zero, fin_cons]
    rw [Nat.add_zero] at hy
    rw [hy]
    rfl
  | z :: ds, i, n + 1, x, out, y, h, hx, hy => by
    rw [List.take_succ_cons, fin_cons] at h
    rw [List.take_succ_cons, fin_cons]
    cases hz : draftV ps i z with
    | error e => rw [hz] at h; cases h
    | ok u =>
      rw [hz] at h
      simp only at h ⊢
      cases hf : finV rtD ps (i + 1) (ds.take n) with
      | error e => rw [hf] at h; cases h
      | ok o2 =>
        rw [hf] at h
        have h : u :: o2 = out := by injection h
        subst h
        rw [fin_snoc ps ds (i + 1) n x o2 y hf (by simpa using hx) (by rw [show i + 1 + n = i + (n + 1) by omega]; exact hy)]
        rfl
theorem fin_bad (ps : Places) : ∀ (ds : Drafts) (i n : Nat) (x : Dr × Nat) (out : List Dr) (e : Int × Nat), finV rtD ps i (ds.take n) = .ok out → ds[n]? = some x → draftV ps (i + n) x = .error e → finV rtD ps i ds = .error e
  | [], i, n, x, out, e, _, h, _ => by simp at h
  | z :: ds, i, 0, x, out, e, h, hx, hy => by
    simp at hx
    subst hx
    rw [Nat.add_zero] at hy
    rw [fin_cons, hy]
  | z :: ds, i, n + 1, x, out, e, h, hx, hy => by
    rw [List.take_succ_cons, fin_cons] at h
    rw [fin_cons]
    cases hz : draftV ps i z with
    | error e => rw [hz] at h; cases h
    | ok u =>
      rw [hz] at h
      simp only at h ⊢
      cases hf : finV rtD ps (i + 1) (ds.take n) with
      | error e => rw [hf] at h; cases h
      | ok o2 =>
        rw [fin_bad ps ds (i + 1) n x o2 e hf (by simpa using hx) (by rw [show i + 1 + n = i + (n + 1) by omega]; exact hy)]
        rfl
theorem fin_len (ps : Places) : ∀ (ds : Drafts) (i : Nat) (out : List Dr), finV rtD ps i ds = .ok out → out.length = ds.length
  | [], i, out, h => by simp only [finV] at h; injection h with h; subst h; rfl
  | z :: ds, i, out, h => by
    rw [fin_cons] at h
    cases hz : draftV ps i z with
    | error e => rw [hz] at h; cases h
    | ok u =>
      rw [hz] at h
      simp only at h
      cases hf : finV rtD ps (i + 1) ds with
      | error e => rw [hf] at h; cases h
      | ok o2 =>
        rw [hf] at h
        have h : u :: o2 = out := by injection h
        subst h
        simp [fin_len ps ds (i + 1) o2 hf]

/-- Behind so many lines. -/
def upV (s : By) (k : Nat) : St := foldE ((linesV s).take k) 0 (.ok ([], []))
theorem upV_zero (s : By) : upV s 0 = .ok ([], []) := rfl
theorem upV_step (s : By) (k : Nat) (l : By) (h : (linesV s)[k]? = some l) : upV s (k + 1) = stepV (upV s k) k l := by
  obtain ⟨hk, rfl⟩ := List.getElem?_eq_some_iff.1 h
  unfold upV
  rw [List.take_succ_eq_append_getElem hk, foldE_snoc]
  congr 1
  simp
  omega
theorem foldE_app (e : Int × Nat) : ∀ (a b : List By) (k : Nat) (st : St), foldE a k st = .error e → foldE (a ++ b) k st = .error e
  | [], b, k, st, h => by rw [foldE] at h; subst h; exact foldE_error e b k
  | x :: a, b, k, st, h => by rw [List.cons_append, foldE]; rw [foldE] at h; exact foldE_app e a b (k + 1) _ h
theorem asm_bad (s : By) (k : Nat) (e : Int × Nat) (h : upV s k = .error e) : asmV rtD s = .error e := by
  have : asmL (linesV s) 0 [] [] = .error e := by
    rw [asmL_fold, ← List.take_append_drop k (linesV s)]
    exact foldE_app e _ _ _ _ h
  rw [asmV, this]
theorem asm_fin (s : By) (ds : Drafts) (ps : Places) (h : upV s (linesV s).length = .ok (ds, ps)) : asmV rtD s = finV rtD ps 0 ds := by
  have : asmL (linesV s) 0 [] [] = .ok (ds, ps) := by
    rw [asmL_fold]
    unfold upV at h
    rw [List.take_length] at h
    exact h
  rw [asmV, this]

/-- What is in memory of the drafts' instructions. -/
def Mat (xs : List Dr) (ds : Drafts) : Prop := xs.length = ds.length ∧ ∀ (i : Nat) (d : Dr) (k : Nat), ds[i]? = some (d, k) → ∃ N : Int, xs[i]? = some ⟨d.o, d.d, d.a, d.b, N, []⟩ ∧ (d.pl = [] → N = d.n)
theorem mat_nil : Mat [] [] := ⟨rfl, fun i d k h => by simp at h⟩
theorem mat_snoc {xs : List Dr} {ds : Drafts} (h : Mat xs ds) (d : Dr) (k : Nat) (N : Int) (hN : d.pl = [] → N = d.n) : Mat (xs ++ [⟨d.o, d.d, d.a, d.b, N, []⟩]) (ds ++ [(d, k)]) := by
  refine ⟨by simp [h.1], fun i d' k' hi => ?_⟩
  by_cases hl : i < ds.length
  · rw [List.getElem?_append_left hl] at hi
    obtain ⟨N', h1, h2⟩ := h.2 i d' k' hi
    exact ⟨N', by rw [List.getElem?_append_left (by rw [h.1]; exact hl)]; exact h1, h2⟩
  · have hi' : i = ds.length := by
      have := (List.getElem?_eq_some_iff.1 hi).1
      simp at this
      omega
    subst hi'
    rw [List.getElem?_append_right (Nat.le_refl _)] at hi
    simp at hi
    obtain ⟨rfl, rfl⟩ := hi
    exact ⟨N, by rw [List.getElem?_append_right (by rw [h.1]; exact Nat.le_refl _), h.1]; simp, hN⟩
theorem ins_app (a b : List Dr) : ins (a ++ b) = ins a ++ ins b := by simp [ins]
theorem ins_set (a b : List Dr) (x : Dr) (N : Int) : (ins (a ++ x :: b)).set (a.length * 5 + 4) (.int .i64 N) = ins (a ++ { x with n := N } :: b) := by
  rw [ins_app, ins_app, List.set_append_right _ _ (by rw [ins_len]; omega), ins_len]
  congr 1
  rw [show a.length * 5 + 4 - a.length * 5 = 4 by omega]
  rfl
theorem ins_pl (a b : List Dr) (x : Dr) (p : By) : ins (a ++ x :: b) = ins (a ++ { x with pl := p } :: b) := by
  rw [ins_app, ins_app]; rfl
end Go.Proofs.YtjjjdplgdlaihaaGreatDoor
