/- Plain: what is read of tokens are statements as they are written, with no more tokens. Plain: two programs, one behind the other, are the functions of both. Plain: programs in pieces; what is written is read as it was, whatever the blanks are. Plain: how a program goes; with more fuel it is no other road. -/
import Derived.Test.YtnfhpdbbfejioaaGreatDoorL14
import Derived.Test.YtnfhpdbbfejioaaGreatDoorL13
namespace Go.Proofs.YtnfhpdbbfejioaaGreatDoor
set_option linter.unusedVariables false
set_option linter.unusedSimpArgs false
open Go

theorem need_re {x : By} {l l' : List Tok} {u : Unit} (hT : TkOk l) (hx : x ≠ []) (h : needV x l = .ok (u, l')) : TkOk l' ∧ l'.length + 1 = l.length := by
  obtain ⟨e, rfl⟩ := need_ok h
  exact ⟨hT.tail, tl_len (by rw [e]; exact hx)⟩
theorem name_re {l l' : List Tok} {nm : By} (hT : TkOk l) (h : nameVv l = .ok (nm, l')) : Nam nm ∧ TkOk l' ∧ l'.length + 1 = l.length := by
  obtain ⟨hk, rfl, h12, rfl⟩ := name_ok h
  exact ⟨hT.hd.1 hk h12, hT.tail, tl_kind hT (.inl hk)⟩
theorem tok_re {x : By} {l : List Tok} (hT : TkOk l) (h : (hd l).t = x) (hx : x ≠ []) : TkOk l.tail ∧ l.tail.length + 1 = l.length := ⟨hT.tail, tl_len (by rw [h]; exact hx)⟩
theorem expr_re {l l' : List Tok} {v : Tr} (hT : TkOk l) (h : exprV l = .ok (v, l')) : TkOk l' ∧ REx 0 v ∧ (te v).length + l'.length ≤ l.length := by
  obtain ⟨T1, ⟨e, r⟩, r'⟩ : TkOk l' ∧ RL 1 0 v l'.length l.length := ex_re _ 0 1 0 .nil 0 l v l' (fun _ => ⟨by omega, by omega⟩) (fun h => by omega) (fun h => by omega) hT h
  rw [hk_len] at r'
  exact ⟨T1, ⟨e, re_mono _ _ _ _ _ (Nat.le_refl _) (by omega) r⟩, by omega⟩
theorem held_re {l l' : List Tok} {v : Tr} (hT : TkOk l) (h : heldV l = .ok (v, l')) : TkOk l' ∧ REx 1 v ∧ (te v).length + 2 + l'.length ≤ l.length :=
  ex_re _ 5 0 0 .nil 0 l v l' (fun h => by omega) (fun h => by omega) (fun h => by omega) hT h
theorem idx_re {l l' : List Tok} {v : Tr} (hT : TkOk l) (h : idxV l = .ok (v, l')) : TkOk l' ∧ REx 1 v ∧ (te v).length + 1 + l'.length ≤ l.length :=
  ex_re _ 6 0 0 .nil 0 l v l' (fun h => by omega) (fun h => by omega) (fun h => by omega) hT h
theorem args_re {l l' : List Tok} {g : Tr} (hT : TkOk l) (h : argsV l = .ok (g, l')) : TkOk l' ∧ ∃ xs, g = chain xs ∧ (∃ e, ∀ x ∈ xs, RE e 1 x) ∧ (te g).length + 1 + l'.length ≤ l.length := by
  unfold argsV argV at h
  split at h
  · rename_i h41
    have htl := tl_len (l := l) (by rw [h41]; simp)
    obtain ⟨rfl, rfl⟩ := ok_eq h
    have e3 : te ce = [] := by unfold te; rw [pc_ce]; rfl
    exact ⟨hT.tail, [], rfl, ⟨0, fun x hx => by simp at hx⟩, by rw [e3]; simp; omega⟩
  · obtain ⟨T1, xs, _, a, b, c⟩ : TkOk l' ∧ ∃ xs, xs ≠ [] ∧ g = chain xs ∧ (∃ e, ∀ x ∈ xs, RE e (0 + 1) x) ∧ (te g).length + 1 + l'.length ≤ l.length := ex_re _ 7 0 0 ce 0 l g l' (fun h => by omega) (fun h => by omega) (fun h => by omega) hT h
    exact ⟨T1, xs, a, b, c⟩
theorem named_re {a : Nat} {l l' : List Tok} {t : Tr} (d : Nat) (hT : TkOk l) (h : namedV a l = .ok (t, l')) : TkOk l' ∧ RS 1 d t ∧ ∀ n, (tm n t).length + l'.length ≤ l.length + 1 := by
  unfold namedV at h
  obtain ⟨nm, l1, h1, h⟩ := bnd_ok h
  obtain ⟨hn, T1, s1⟩ := name_re hT h1
  split at h
  · rename_i h40
    obtain ⟨T2, s2⟩ := tok_re T1 h40 (by decide)
    obtain ⟨g, l2, h2, h⟩ := bnd_ok h
    obtain ⟨T3, xs, rfl, hx, s3⟩ := args_re T2 h2
    obtain ⟨rfl, rfl⟩ := ok_eq h
    refine ⟨T3, ?_, fun n => ?_⟩
    · rw [RS]
      exact .inr (.inr (.inr (.inr (.inr (.inr (.inr ⟨_, _, nm, xs, hn, hx, rfl⟩))))))
    · rw [tm_8]
      simp
      omega
  split at h
  · rename_i h91
    obtain ⟨T2, s2⟩ := tok_re T1 h91 (by decide)
    obtain ⟨g, l2, h2, h⟩ := bnd_ok h
    obtain ⟨T3, hi, s3⟩ := idx_re T2 h2
    obtain ⟨_, l3, h3, h⟩ := bnd_ok h
    obtain ⟨T4, s4⟩ := need_re T3 (by decide) h3
    obtain ⟨v, l4, h4, h⟩ := bnd_ok h
    obtain ⟨T5, hv, s5⟩ := expr_re T4 h4
    obtain ⟨rfl, rfl⟩ := ok_eq h
    refine ⟨T5, ?_, fun n => ?_⟩
    · rw [RS]
      exact .inr (.inr (.inl ⟨_, nm, _, _, hn, hi, hv, rfl⟩))
    · rw [tm_3]
      simp
      omega
  · obtain ⟨_, l3, h3, h⟩ := bnd_ok h
    obtain ⟨T4, s4⟩ := need_re T1 (by decide) h3
    obtain ⟨v, l4, h4, h⟩ := bnd_ok h
    obtain ⟨T5, hv, s5⟩ := expr_re T4 h4
    obtain ⟨rfl, rfl⟩ := ok_eq h
    refine ⟨T5, ?_, fun n => ?_⟩
    · rw [RS]
      exact .inr (.inl ⟨_, nm, _, hn, hv, rfl⟩)
    · rw [tm_2]
      simp
      omega
def StR (g d : Nat) (l : List Tok) (t : Tr) (l' : List Tok) : Prop := TkOk l' ∧
  (if g = 2 then (∃ e, RS e d t) ∧ ∀ n, (tm n t).length + l'.length ≤ l.length
   else ∃ ys, t = chain ys ∧ (∃ e, ∀ y ∈ ys, RS e (d + 1) y) ∧ (g = 0 → d ≤ 12) ∧ ∀ n, (ts n t).length + (if g = 0 then 2 else 1) + l'.length ≤ l.length)
theorem rs_max {e1 e2 d d' : Nat} {xs ys : List Tr} (h1 : ∀ x ∈ xs, RS e1 d x) (h2 : ∀ y ∈ ys, RS e2 d' y) : (∀ x ∈ xs, RS (max e1 e2) d x) ∧ (∀ y ∈ ys, RS (max e1 e2) d' y) := ⟨fun x hx => rs_mono _ _ _ _ (Nat.le_max_left _ _) (h1 x hx), fun x hx => rs_mono _ _ _ _ (Nat.le_max_right _ _) (h2 x hx)⟩

set_option maxHeartbeats 1000000 in
theorem st_re : ∀ (f g d : Nat) (l : List Tok) (t : Tr) (l' : List Tok), TkOk l → stV f g d l = .ok (t, l') → StR g d l t l'
  | 0, _, _, _, _, _, _, h => by simp [stV] at h
  | f + 1, 0, d, l, t, l', hT, h => by
    rw [stV] at h
    obtain ⟨_, _, hb, h⟩ := bnd_ok h
    obtain ⟨_, l1, h1, h⟩ := bnd_ok h
    obtain ⟨T1, s1⟩ := need_re hT (by decide) h1
    have h12 : d ≤ 12 := by
      have hk : (hd l).k ≠ 3 := fun e => by
        have := hT.hd.2.2 e
        rw [(need_ok h1).1] at this
        cases this
      unfold boundV at hb
      split at hb
      · cases hb
      · rename_i hno
        rcases Nat.lt_or_ge 12 d with hd | hd
        · exact absurd ⟨hd, hk⟩ hno
        · exact hd
    obtain ⟨T2, ys, e1, e2, _, e3⟩ : TkOk l' ∧ ∃ ys, t = chain ys ∧ (∃ e, ∀ y ∈ ys, RS e (d + 1) y) ∧ (1 = 0 → d ≤ 12) ∧ ∀ n, (ts n t).length + 1 + l'.length ≤ l1.length := st_re f 1 d l1 t l' T1 h
    exact ⟨T2, ys, e1, e2, fun _ => h12, fun n => by have := e3 n; show (ts n t).length + 2 + l'.length ≤ _; omega⟩
  | f + 1, 1, d, l, t, l', hT, h => by
    rw [stV] at h
    split at h
    · rename_i h1
      obtain ⟨T1, s1⟩ := tok_re hT h1 (by decide)
      obtain ⟨rfl, rfl⟩ := ok_eq h
      exact ⟨T1, [], rfl, ⟨0, fun x hx => by simp at hx⟩, fun e => (by cases e), fun n => by rw [ts_ce]; show 0 + 1 + _ ≤ _; omega⟩
    · obtain ⟨t1, l1, h1, h⟩ := bnd_ok h
      obtain ⟨T1, ⟨e1, r1⟩, r2⟩ : TkOk l1 ∧ (∃ e, RS e (d + 1) t1) ∧ ∀ n, (tm n t1).length + l1.length ≤ l.length := st_re f 2 (d + 1) l t1 l1 hT h1
      obtain ⟨g, l2, h2, h⟩ := bnd_ok h
      obtain ⟨T2, ys, rfl, ⟨e2, r3⟩, _, r4⟩ : TkOk l2 ∧ ∃ ys, g = chain ys ∧ (∃ e, ∀ y ∈ ys, RS e (d + 1) y) ∧ (1 = 0 → d ≤ 12) ∧ ∀ n, (ts n g).length + 1 + l2.length ≤ l1.length := st_re f 1 d l1 g l2 T1 h2
      obtain ⟨rfl, rfl⟩ := ok_eq h
      refine ⟨T2, t1 :: ys, rfl, ⟨max e1 e2, fun y hy => ?_⟩, fun e => (by cases e), fun n => ?_⟩
      · rcases List.mem_cons.1 hy with rfl | hy
        · exact rs_mono _ _ _ _ (Nat.le_max_left _ _) r1
        · exact rs_mono _ _ _ _ (Nat.le_max_right _ _) (r3 y hy)
      · rw [ts_cc r1]
        have a1 := r2 (n + 2)
        have a2 := r4 n
        show (tm (n + 2) t1 ++ ts n (chain ys)).length + 1 + l2.length ≤ l.length
        rw [List.length_append]
        omega
  | f + 1, 2, d, l, t, l', hT, h => by
    show TkOk l' ∧ (∃ e, RS e d t) ∧ ∀ n, (tm n t).length + l'.length ≤ l.length
    rw [stV] at h
    split at h
    · obtain ⟨t1, l1, h1, h⟩ := bnd_ok h
      obtain ⟨T1, r1, r2⟩ := named_re d hT h1
      obtain ⟨_, l2, h2, h⟩ := bnd_ok h
      obtain ⟨T2, s2⟩ := need_re T1 (by decide) h2
      obtain ⟨rfl, rfl⟩ := ok_eq h
      exact ⟨T2, ⟨1, r1⟩, fun n => by have := r2 n; omega⟩
    split at h
    · rename_i h0
      obtain ⟨T0, s0⟩ := tok_re hT h0 (by decide)
      obtain ⟨nm, l1, h1, h⟩ := bnd_ok h
      obtain ⟨hn, T1, s1⟩ := name_re T0 h1
      obtain ⟨_, l2, h2, h⟩ := bnd_ok h
      obtain ⟨T2, s2⟩ := need_re T1 (by decide) h2
      obtain ⟨v, l3, h3, h⟩ := bnd_ok h
      obtain ⟨T3, hv, s3⟩ := expr_re T2 h3
      obtain ⟨_, l4, h4, h⟩ := bnd_ok h
      obtain ⟨T4, s4⟩ := need_re T3 (by decide) h4
      obtain ⟨rfl, rfl⟩ := ok_eq h
      refine ⟨T4, ⟨1, ?_⟩, fun n => ?_⟩
      · rw [RS]
        exact .inl ⟨_, nm, _, hn, hv, rfl⟩
      · rw [tm_1]
        simp
        omega
    split at h
    · rename_i h0
      obtain ⟨T0, s0⟩ := tok_re hT h0 (by decide)
      obtain ⟨v, l3, h3, h⟩ := bnd_ok h
      obtain ⟨T3, hv, s3⟩ := expr_re T0 h3
      obtain ⟨_, l4, h4, h⟩ := bnd_ok h
      obtain ⟨T4, s4⟩ := need_re T3 (by decide) h4
      obtain ⟨rfl, rfl⟩ := ok_eq h
      refine ⟨T4, ⟨1, ?_⟩, fun n => ?_⟩
      · rw [RS]
        exact .inr (.inr (.inr (.inr (.inr (.inl ⟨_, _, hv, rfl⟩)))))
      · rw [tm_6]
        simp
        omega
    split at h
    · rename_i h0
      obtain ⟨T0, s0⟩ := tok_re hT h0 (by decide)
      obtain ⟨v, l3, h3, h⟩ := bnd_ok h
      obtain ⟨T3, hv, s3⟩ := expr_re T0 h3
      obtain ⟨_, l4, h4, h⟩ := bnd_ok h
      obtain ⟨T4, s4⟩ := need_re T3 (by decide) h4
      obtain ⟨rfl, rfl⟩ := ok_eq h
      refine ⟨T4, ⟨1, ?_⟩, fun n => ?_⟩
      · rw [RS]
        exact .inr (.inr (.inr (.inr (.inr (.inr (.inl ⟨_, _, hv, rfl⟩))))))
      · rw [tm_7]
        simp
        omega
    split at h
    · rename_i h0
      obtain ⟨T0, s0⟩ := tok_re hT h0 (by decide)
      obtain ⟨v, l3, h3, h⟩ := bnd_ok h
      obtain ⟨T3, hv, s3⟩ := held_re T0 h3
      obtain ⟨th, l4, h4, h⟩ := bnd_ok h
      obtain ⟨T4, xs, rfl, ⟨e1, r1⟩, h12, r2⟩ : TkOk l4 ∧ ∃ ys, th = chain ys ∧ (∃ e, ∀ y ∈ ys, RS e (d + 1) y) ∧ (0 = 0 → d ≤ 12) ∧ ∀ n, (ts n th).length + 2 + l4.length ≤ l3.length := st_re f 0 d l3 th l4 T3 h4
      split at h
      · rename_i h5
        obtain ⟨T5, s5⟩ := tok_re T4 h5 (by decide)
        obtain ⟨el, l6, h6, h⟩ := bnd_ok h
        obtain ⟨T6, ys, rfl, ⟨e2, r3⟩, _, r4⟩ : TkOk l6 ∧ ∃ ys, el = chain ys ∧ (∃ e, ∀ y ∈ ys, RS e (d + 1) y) ∧ (0 = 0 → d ≤ 12) ∧ ∀ n, (ts n el).length + 2 + l6.length ≤ l4.tail.length := st_re f 0 d l4.tail el l6 T5 h6
        obtain ⟨rfl, rfl⟩ := ok_eq h
        obtain ⟨m1, m2⟩ := rs_max r1 r3
        refine ⟨T6, ⟨max e1 e2 + 1, ?_⟩, fun n => ?_⟩
        · rw [RS]
          exact .inr (.inr (.inr (.inl ⟨_, _, xs, ys, h12 rfl, hv, m1, m2, rfl⟩)))
        · rw [tm_4]
          have a1 := r2 n
          have a2 := r4 n
          split
          · simp only [List.length_cons, List.length_append, List.length_nil]
            omega
          · simp only [List.length_cons, List.length_append, List.length_nil]
            omega
      · obtain ⟨rfl, rfl⟩ := ok_eq h
        refine ⟨T4, ⟨e1 + 1, ?_⟩, fun n => ?_⟩
        · rw [RS]
          exact .inr (.inr (.inr (.inl ⟨_, _, xs, [], h12 rfl, hv, r1, fun y hy => by simp at hy, rfl⟩)))
        · rw [tm_4]
          have a1 := r2 n
          rw [if_pos (show isCe ce = true from rfl)]
          simp only [List.length_cons, List.length_append, List.length_nil]
          omega
    split at h
    · rename_i h0
      obtain ⟨T0, s0⟩ := tok_re hT h0 (by decide)
      obtain ⟨v, l3, h3, h⟩ := bnd_ok h
      obtain ⟨T3, hv, s3⟩ := held_re T0 h3
      obtain ⟨th, l4, h4, h⟩ := bnd_ok h
      obtain ⟨T4, xs, rfl, ⟨e1, r1⟩, h12, r2⟩ : TkOk l4 ∧ ∃ ys, th = chain ys ∧ (∃ e, ∀ y ∈ ys, RS e (d + 1) y) ∧ (0 = 0 → d ≤ 12) ∧ ∀ n, (ts n th).length + 2 + l4.length ≤ l3.length := st_re f 0 d l3 th l4 T3 h4
      obtain ⟨rfl, rfl⟩ := ok_eq h
      refine ⟨T4, ⟨e1 + 1, ?_⟩, fun n => ?_⟩
      · rw [RS]
        exact .inr (.inr (.inr (.inr (.inl ⟨_, _, xs, h12 rfl, hv, r1, rfl⟩))))
      · rw [tm_5]
        have a1 := r2 n
        simp only [List.length_cons, List.length_append, List.length_nil]
        omega
    · cases h
  | f + 1, g + 3, d, l, t, l', hT, h => by simp [stV] at h
end Go.Proofs.YtnfhpdbbfejioaaGreatDoor
namespace Go.Proofs.YtnfhpdbbfejioaaGreatDoor
set_option linter.unusedVariables false
set_option linter.unusedSimpArgs false
open Go Go.RowKit
theorem parse_parts {s : By} {t : Tr} (h : parseV s = .ok t) : ∃ l c, tokV s = .ok l ∧ progV (l.length + 1) 0 l = .ok (t, c) := by
  unfold parseV at h
  split at h
  · cases h
  · rename_i l hl
    split at h
    · cases h
    · rename_i t' l' hp
      injection h with h
      subst h
      exact ⟨l, l', hl, hp⟩
/-- Parameters, a function, functions, in pieces. -/
def tyW (n : Int) : By := if n = 2 then [97, 114, 114] else [105, 110, 116]
def pcA (x : By × Int) : List Pc := [⟨0, x.1⟩, fx [58], bl 32, fx (tyW x.2)]
def pcP : List (By × Int) → List Pc
  | [] => []
  | [x] => pcA x
  | x :: y :: xs => pcA x ++ (fx [44] :: bl 32 :: pcP (y :: xs))
def pcF (F : Fun) : List Pc := fx [102, 110] :: bl 32 :: ⟨0, F.nm⟩ :: ((fx [40] :: (pcP F.ps ++ [fx [41]])) ++ (pcB 0 F.body ++ [bl 10]))
def pcL (L : List Fun) : List Pc := L.flatMap pcF
/-- A function as it is read. -/
def PaOk (x : By × Int) : Prop := Nam x.1 ∧ (x.2 = 1 ∨ x.2 = 2)
def RF (F : Fun) : Prop := F.kd = .i64 ∧ Nam F.nm ∧ (∀ x ∈ F.ps, PaOk x) ∧ ∃ xs e, F.body = chain xs ∧ ∀ x ∈ xs, RS e 1 x
/-- Reading them. -/
theorem ta_eq (x : By × Int) (q : List Pc) : tks (pcA x ++ q) = nt x.1 :: tk [58] :: tk (tyW x.2) :: tks q := by
  show tks (⟨0, x.1⟩ :: fx [58] :: bl 32 :: fx (tyW x.2) :: q) = _
  rw [tks_nm, tks_fx, tks_bl, tks_fx]
theorem tf_eq (F : Fun) : tks (pcF F) = tk [102, 110] :: nt F.nm :: tk [40] :: (tks (pcP F.ps) ++ (tk [41] :: tk [123] :: (ts 0 F.body ++ [tk [125]]))) := by
  unfold pcF
  rw [tks_fx, tks_bl, tks_nm, tks_app, tks_fx, tks_app, tks_app, tb_eq, tks_fx, tks_nil, tks_bl, tks_nil]
  simp
/-- What is read are such functions. -/
theorem par_re {l l' : List Tok} {t : Tr} (hT : TkOk l) (h : parV l = .ok (t, l')) : TkOk l' ∧ ∃ x : By × Int, t = pr x.1 x.2 ∧ PaOk x ∧ 3 + l'.length = l.length := by
  unfold parV at h
  obtain ⟨nm, l1, h1, h⟩ := bnd_ok h
  obtain ⟨hn, T1, s1⟩ := name_re hT h1
  obtain ⟨_, l2, h2, h⟩ := bnd_ok h
  obtain ⟨T2, s2⟩ := need_re T1 (by decide) h2
  split at h
  · rename_i h3
    obtain ⟨T3, s3⟩ := tok_re T2 h3 (by decide)
    obtain ⟨rfl, rfl⟩ := ok_eq h
    exact ⟨T3, (nm, 2), rfl, ⟨hn, .inr rfl⟩, by omega⟩
  · obtain ⟨_, l3, h3, h⟩ := bnd_ok h
    obtain ⟨T3, s3⟩ := need_re T2 (by decide) h3
    obtain ⟨rfl, rfl⟩ := ok_eq h
    exact ⟨T3, (nm, 1), rfl, ⟨hn, .inl rfl⟩, by omega⟩
theorem parl_re : ∀ (f : Nat) {l l' : List Tok} {t : Tr}, TkOk l → parlV f l = .ok (t, l') → TkOk l' ∧ ∃ xs : List (By × Int), xs ≠ [] ∧ t = psT xs ∧ (∀ x ∈ xs, PaOk x) ∧ (tks (pcP xs)).length + 1 + l'.length ≤ l.length
  | 0, l, l', t, hT, h => by simp [parlV] at h
  | f + 1, l, l', t, hT, h => by
    rw [parlV] at h
    obtain ⟨x, l1, h1, h⟩ := bnd_ok h
    obtain ⟨T1, p, rfl, q1, s1⟩ := par_re hT h1
    split at h
    · rename_i h2
      obtain ⟨T2, s2⟩ := tok_re T1 h2 (by decide)
      obtain ⟨g, l3, h3, h⟩ := bnd_ok h
      obtain ⟨T3, xs, hne, rfl, q2, q3⟩ := parl_re f T2 h3
      obtain ⟨rfl, rfl⟩ := ok_eq h
      refine ⟨T3, p :: xs, by simp, rfl, fun z hz => ?_, ?_⟩
      · rcases List.mem_cons.1 hz with rfl | hz
        · exact q1
        · exact q2 z hz
      · cases xs with
        | nil => exact absurd rfl hne
        | cons y xs =>
          rw [pcP, ta_eq, tks_fx, tks_bl]
          simp only [List.length_cons]
          omega
    · obtain ⟨_, l3, h3, h⟩ := bnd_ok h
      obtain ⟨T3, s3⟩ := need_re T1 (by decide) h3
      obtain ⟨rfl, rfl⟩ := ok_eq h
      refine ⟨T3, [p], by simp, rfl, fun z hz => by rw [List.mem_singleton] at hz; rw [hz]; exact q1, ?_⟩
      have := ta_eq p []
      rw [List.append_nil] at this
      rw [pcP, this]
      simp only [List.length_cons, List.length_nil, tks_nil]
      omega
theorem pars_re {l l' : List Tok} {t : Tr} (hT : TkOk l) (h : parsV l = .ok (t, l')) : TkOk l' ∧ ∃ xs : List (By × Int), t = psT xs ∧ (∀ x ∈ xs, PaOk x) ∧ (tks (pcP xs)).length + 1 + l'.length ≤ l.length := by
  unfold parsV at h
  split at h
  · rename_i h2
    obtain ⟨T2, s2⟩ := tok_re hT h2 (by decide)
    obtain ⟨rfl, rfl⟩ := ok_eq h
    exact ⟨T2, [], rfl, fun x hx => by simp at hx, by rw [pcP, tks_nil]; simp; omega⟩
  · obtain ⟨T, xs, _, a, b, c⟩ := parl_re _ hT h
    exact ⟨T, xs, a, b, c⟩
theorem fn_re {l l' : List Tok} {t : Tr} (hT : TkOk l) (h : fnV l = .ok (t, l')) : TkOk l' ∧ ∃ F : Fun, t = F.tr ∧ RF F ∧ (tks (pcF F)).length + l'.length ≤ l.length := by
  unfold fnV at h
  obtain ⟨_, l1, h1, h⟩ := bnd_ok h
  obtain ⟨T1, s1⟩ := need_re hT (by decide) h1
  obtain ⟨nm, l2, h2, h⟩ := bnd_ok h
  obtain ⟨hn, T2, s2⟩ := name_re T1 h2
  obtain ⟨_, l3, h3, h⟩ := bnd_ok h
  obtain ⟨T3, s3⟩ := need_re T2 (by decide) h3
  obtain ⟨ps, l4, h4, h⟩ := bnd_ok h
  obtain ⟨T4, xs, rfl, hp, s4⟩ := pars_re T3 h4
  obtain ⟨b, l5, h5, h⟩ := bnd_ok h
  obtain ⟨T5, ys, rfl, ⟨e, hy⟩, _, s5⟩ : TkOk l5 ∧ ∃ ys, b = chain ys ∧ (∃ e, ∀ y ∈ ys, RS e (0 + 1) y) ∧ (0 = 0 → 0 ≤ 12) ∧ ∀ n, (ts n b).length + 2 + l5.length ≤ l4.length := st_re _ 0 0 l4 b l5 T4 h5
  obtain ⟨rfl, rfl⟩ := ok_eq h
  refine ⟨T5, ⟨nm, .i64, (hd l).p, xs, chain ys⟩, rfl, ⟨rfl, hn, hp, ys, e, rfl, hy⟩, ?_⟩
  rw [tf_eq]
  have := s5 0
  simp only [List.length_cons, List.length_append, List.length_nil]
  omega
theorem prog_re : ∀ (f n : Nat) {l l' : List Tok} {t : Tr}, TkOk l → Ends l → progV f n l = .ok (t, l') → ∃ L : List Fun, t = chain (L.map Fun.tr) ∧ (∀ F ∈ L, RF F) ∧ (tks (pcL L)).length + 1 ≤ l.length
  | 0, n, l, l', t, hT, he, h => by simp [progV] at h
  | f + 1, n, l, l', t, hT, he, h => by
    rw [progV] at h
    split at h
    · obtain ⟨rfl, rfl⟩ := ok_eq h
      exact ⟨[], rfl, fun F hF => by simp at hF, by have := he.pos; simpa [pcL, tks] using this⟩
    split at h
    · cases h
    · obtain ⟨x, l1, h1, h⟩ := bnd_ok h
      obtain ⟨e1, _⟩ := fn_tail h1 he
      obtain ⟨T1, F, rfl, gF, q1⟩ := fn_re hT h1
      obtain ⟨g, l2, h2, h⟩ := bnd_ok h
      obtain ⟨L, rfl, gL, q2⟩ := prog_re f (n + 1) T1 e1 h2
      obtain ⟨rfl, rfl⟩ := ok_eq h
      refine ⟨F :: L, rfl, fun G hG => ?_, ?_⟩
      · rcases List.mem_cons.1 hG with rfl | hG
        · exact gF
        · exact gL G hG
      · show (tks (pcF F ++ pcL L)).length + 1 ≤ _
        rw [tks_app, List.length_append]
        omega
/-- A text's tokens are such tokens. -/
theorem one_tk {rest : By} {k : Nat} {t : By} (h : oneTok rest = some (k, t)) : (k = 0 → t.length ≤ 12 → Nam t) ∧ (k = 2 → Dig t) := by
  have tw : ∀ (set s : By), ∀ c ∈ runV s set, set.contains c = true := fun set s c hc => by
    unfold runV at hc
    have := List.all_takeWhile (p := fun x => set.contains x) (l := s)
    exact List.all_eq_true.1 this c hc
  unfold oneTok at h
  split at h
  · rename_i hd'
    injection h with h
    injection h with h1 h2
    subst h1
    subst h2
    exact ⟨fun e => by omega, fun _ => ⟨hd', tw digs rest⟩⟩
  · rename_i hd'
    split at h
    · rename_i ha
      injection h with h
      injection h with h1 h2
      subst h1
      subst h2
      refine ⟨fun e h12 => ⟨ha, tw alnum rest, ?_, ?_, h12⟩, fun e => ?_⟩
      · cases rest with
        | nil => exact absurd rfl ha
        | cons c r =>
          have hc : digs.contains c = false := by
            cases hcc : digs.contains c with
            | false => rfl
            | true =>
              refine absurd ?_ hd'
              unfold runV
              rw [List.takeWhile_cons, hcc, if_pos rfl]
              simp
          have hal : (runV (c :: r) (lets ++ digs)).headD 0 = c := by
            unfold runV at ha ⊢
            rw [List.takeWhile_cons] at ha ⊢
            split
            · rfl
            · rename_i hf
              rw [if_neg hf] at ha
              exact absurd rfl ha
          rw [hal]
          exact hc
      · cases hw : wordsL.contains (runV rest (lets ++ digs)) with
        | false => rfl
        | true => rw [if_pos hw] at e; cases e
      · split at e <;> cases e
    · obtain ⟨m, hm, he⟩ := Option.map_eq_some_iff.1 h
      injection he with h1 h2
      exact ⟨fun e => by omega, fun e => by omega⟩
theorem cut_tk (n : Nat) : ∀ (f : Nat) (rest : By) (l r : List Tok), TkOk l → cutV n f rest l = .ok r → TkOk r
  | 0, rest, l, r, hT, h => by
    rw [cutV] at h
    injection h with h
    subst h
    exact hT
  | f + 1, rest, l, r, hT, h => by
    rw [cutV] at h
    split at h
    · injection h with h
      subst h
      intro x hx
      rcases List.mem_append.1 hx with hx | hx
      · exact hT x hx
      · rw [List.mem_singleton] at hx
        subst hx
        exact ⟨fun e => (by cases e), fun e => (by cases e), fun _ => rfl⟩
    · split at h
      · cases h
      · rename_i k t ho
        split at h
        · cases h
        · refine cut_tk n f _ _ r (fun x hx => ?_) h
          rcases List.mem_append.1 hx with hx | hx
          · exact hT x hx
          · rw [List.mem_singleton] at hx
            subst hx
            have := one_tk ho
            have hk := one_kind ho
            exact ⟨this.1, this.2, fun e => by have e' : k = 3 := e; omega⟩
theorem tok_tk {s : By} {r : List Tok} (h : tokV s = .ok r) : TkOk r := cut_tk _ _ _ [] r (fun x hx => by simp at hx) h
/-- What is left of fuel and of what is given; what was told; the arrays. -/
structure Sg where
  fuel : Nat
  inp : List Int
  out : List Int
  hp : List (List Int)
def Sg.plus (s : Sg) (k : Nat) : Sg := { s with fuel := s.fuel + k }
/-- A number, and an array (its place among all). -/
abbrev Vl := Int × Option Nat
/-- Names of a call. -/
abbrev Own := List (By × Vl)
/-- To go so far, or to end: in a way, with what was told. -/
abbrev Go1 (α : Type) := Sg → Except (Int × List Int) (α × Sg)
def gp {α : Type} (a : α) : Go1 α := fun s => .ok (a, s)
def gb {α β : Type} (x : Go1 α) (f : α → Go1 β) : Go1 β := fun s =>
  match x s with
  | .error e => .error e
  | .ok (a, s1) => f a s1
def gt {α : Type} (w : Int) : Go1 α := fun s => .error (w, s.out)
def pay : Go1 Unit := fun s => if s.fuel = 0 then .error (6, s.out) else .ok ((), { s with fuel := s.fuel - 1 })
def tellG (n : Int) : Go1 Unit := fun s => if 200 ≤ s.out.length then .error (7, s.out) else .ok ((), { s with out := s.out ++ [n] })
def takeG : Go1 Int := fun s => .ok (s.inp.headD 0, { s with inp := s.inp.tail })
def newG (n : Int) : Go1 Vl := fun s => if n < 0 ∨ 40 < n then .error (4, s.out) else .ok ((0, some s.hp.length), { s with hp := s.hp ++ [List.replicate n.toNat 0] })
def arrOf (s : Sg) : Option Nat → List Int
  | none => []
  | some i => s.hp.getD i []
def lenG (q : Option Nat) : Go1 Int := fun s => .ok (((arrOf s q).length : Int), s)
def itemG (q : Option Nat) (i : Int) : Go1 Int := fun s => if i < 0 ∨ ((arrOf s q).length : Int) ≤ i then .error (3, s.out) else .ok ((arrOf s q).getD i.toNat 0, s)
def putG (q : Option Nat) (i n : Int) : Go1 Unit := fun s => if i < 0 ∨ ((arrOf s q).length : Int) ≤ i then .error (3, s.out) else .ok ((), { s with hp := s.hp.modify (q.getD 0) (fun l => l.set i.toNat n) })
def own1 (o : Own) (nm : By) : Vl := (o.lookup nm).getD (0, none)
def tr01 (b : Bool) : Int := if b then 1 else 0
/-- What a mark makes of two numbers. -/
def bothG (op : By) (a b : Int) : Go1 Int :=
  if op = [43] then gp (wrap64 (a + b))
  else if op = [45] then gp (wrap64 (a - b))
  else if op = [42] then gp (wrap64 (a * b))
  else if op = [47] then (if b = 0 then gt 2 else gp (wrap64 (a.tdiv b)))
  else if op = [37] then (if b = 0 then gt 2 else gp (a.tmod b))
  else gp (tr01 (if op = [61, 61] then decide (a = b) else if op = [33, 61] then decide (a ≠ b) else if op = [60] then decide (a < b) else if op = [60, 61] then decide (a ≤ b) else if op = [62] then decide (a > b) else decide (a ≥ b)))
/-- What is gone through with so much gas (99: it was not enough): an expression (functions, how many calls wait, names); args, from the left; statements, one behind the other (what is told, if it is; names); a statement; round by round. -/
structure Ev where
  E : Nat → Own → Tr → Go1 Vl
  A : Nat → Own → Tr → Go1 (List Vl)
  B : Nat → Own → Tr → Go1 (Option Int × Own)
  S : Nat → Own → Tr → Go1 (Option Int × Own)
  W : Nat → Own → Tr → Tr → Go1 (Option Int × Own)
def evN (fs : By → Option Fun) : Nat → Ev
  | 0 => ⟨fun _ _ _ => gt 99, fun _ _ _ => gt 99, fun _ _ _ => gt 99, fun _ _ _ => gt 99, fun _ _ _ _ => gt 99⟩
  | g + 1 => {
      E := fun d o t => match t with
      | .agg [.lit (.int _ c), .lit (.int _ a), .lit (.int _ n), .lit (.string nm), .lit (.string op), l, r, xs] =>
        if c = 2 then gp (own1 o nm)
        else if c = 3 then
          (if op = [38, 38] then gb ((evN fs g).E d o l) fun x => if x.1 = 0 then gp (0, none) else gb ((evN fs g).E d o r) fun y => gp (tr01 (decide (y.1 ≠ 0)), none)
           else if op = [124, 124] then gb ((evN fs g).E d o l) fun x => if x.1 ≠ 0 then gp (1, none) else gb ((evN fs g).E d o r) fun y => gp (tr01 (decide (y.1 ≠ 0)), none)
           else gb ((evN fs g).E d o l) fun x => gb ((evN fs g).E d o r) fun y => gb (bothG op x.1 y.1) fun z => gp (z, none))
        else if c = 4 then gb ((evN fs g).E d o l) fun x => gp (if op = [45] then wrap64 (-x.1) else tr01 (decide (x.1 = 0)), none)
        else if c = 5 then
          (match fs nm with
           | none => gt 98
           | some F => gb ((evN fs g).A d o xs) fun vs => if 40 ≤ d then gt 5 else gb ((evN fs g).B (d + 1) ((F.ps.map (·.1)).zip vs).reverse F.body) fun r => gp (r.1.getD 0, none))
        else if c = 6 then gb ((evN fs g).E d o l) fun x => newG x.1
        else if c = 7 then gb ((evN fs g).E d o l) fun x => gb (lenG x.2) fun n => gp (n, none)
        else if c = 8 then gb ((evN fs g).E d o l) fun x => gb ((evN fs g).E d o r) fun y => gb (itemG x.2 y.1) fun n => gp (n, none)
        else if c = 9 then gb takeG fun n => gp (n, none)
        else gp (n, none)
      | _ => gt 97
      A := fun d o t => match t with
      | .slice [x] [xs] => gb ((evN fs g).E d o x) fun v => gb ((evN fs g).A d o xs) fun vs => gp (v :: vs)
      | _ => gp []
      B := fun d o t => match t with
      | .slice [x] [xs] => gb pay fun _ => gb ((evN fs g).S d o x) fun r => if r.1.isSome then gp r else (evN fs g).B d r.2 xs
      | _ => gp (none, o)
      S := fun d o t => match t with
      | .agg [.lit (.int _ c), .lit (.int _ a), .lit (.string nm), ix, v, th, el] =>
        if c = 3 then gb ((evN fs g).E d o ix) fun i => gb ((evN fs g).E d o v) fun n => gb (putG (own1 o nm).2 i.1 n.1) fun _ => gp (none, o)
        else if c = 4 then gb ((evN fs g).E d o v) fun x => if x.1 ≠ 0 then (evN fs g).B d o th else (evN fs g).B d o el
        else if c = 5 then (evN fs g).W d o v th
        else if c = 6 then gb ((evN fs g).E d o v) fun x => gp (some x.1, o)
        else if c = 7 then gb ((evN fs g).E d o v) fun x => gb (tellG x.1) fun _ => gp (none, o)
        else if c = 8 then gb ((evN fs g).E d o v) fun _ => gp (none, o)
        else gb ((evN fs g).E d o v) fun x => gp (none, (nm, x) :: o)
      | _ => gt 97
      W := fun d o v th => gb ((evN fs g).E d o v) fun x => if x.1 = 0 then gp (none, o) else gb ((evN fs g).B d o th) fun r => if r.1.isSome then gp r else gb pay fun _ => (evN fs g).W d r.2 v th
    }
def evE (fs : By → Option Fun) (g : Nat) : Nat → Own → Tr → Go1 Vl := (evN fs g).E
def evA (fs : By → Option Fun) (g : Nat) : Nat → Own → Tr → Go1 (List Vl) := (evN fs g).A
def evB (fs : By → Option Fun) (g : Nat) : Nat → Own → Tr → Go1 (Option Int × Own) := (evN fs g).B
def evS (fs : By → Option Fun) (g : Nat) : Nat → Own → Tr → Go1 (Option Int × Own) := (evN fs g).S
def evW (fs : By → Option Fun) (g : Nat) : Nat → Own → Tr → Tr → Go1 (Option Int × Own) := (evN fs g).W
theorem evE_0 (fs : By → Option Fun) (d : Nat) (o : Own) (t : Tr) : evE fs 0 d o t = gt 99 := rfl
theorem evE_1 (fs : By → Option Fun) (g : Nat) (d : Nat) (o : Own) (t : Tr) : evE fs (g + 1) d o t = (match t with
    | .agg [.lit (.int _ c), .lit (.int _ a), .lit (.int _ n), .lit (.string nm), .lit (.string op), l, r, xs] =>
      if c = 2 then gp (own1 o nm)
      else if c = 3 then
        (if op = [38, 38] then gb (evE fs g d o l) fun x => if x.1 = 0 then gp (0, none) else gb (evE fs g d o r) fun y => gp (tr01 (decide (y.1 ≠ 0)), none)
         else if op = [124, 124] then gb (evE fs g d o l) fun x => if x.1 ≠ 0 then gp (1, none) else gb (evE fs g d o r) fun y => gp (tr01 (decide (y.1 ≠ 0)), none)
         else gb (evE fs g d o l) fun x => gb (evE fs g d o r) fun y => gb (bothG op x.1 y.1) fun z => gp (z, none))
      else if c = 4 then gb (evE fs g d o l) fun x => gp (if op = [45] then wrap64 (-x.1) else tr01 (decide (x.1 = 0)), none)
      else if c = 5 then
        (match fs nm with
         | none => gt 98
         | some F => gb (evA fs g d o xs) fun vs => if 40 ≤ d then gt 5 else gb (evB fs g (d + 1) ((F.ps.map (·.1)).zip vs).reverse F.body) fun r => gp (r.1.getD 0, none))
      else if c = 6 then gb (evE fs g d o l) fun x => newG x.1
      else if c = 7 then gb (evE fs g d o l) fun x => gb (lenG x.2) fun n => gp (n, none)
      else if c = 8 then gb (evE fs g d o l) fun x => gb (evE fs g d o r) fun y => gb (itemG x.2 y.1) fun n => gp (n, none)
      else if c = 9 then gb takeG fun n => gp (n, none)
      else gp (n, none)
    | _ => gt 97) := rfl
theorem evA_0 (fs : By → Option Fun) (d : Nat) (o : Own) (t : Tr) : evA fs 0 d o t = gt 99 := rfl
theorem evA_1 (fs : By → Option Fun) (g : Nat) (d : Nat) (o : Own) (t : Tr) : evA fs (g + 1) d o t = (match t with
    | .slice [x] [xs] => gb (evE fs g d o x) fun v => gb (evA fs g d o xs) fun vs => gp (v :: vs)
    | _ => gp []) := rfl
theorem evB_0 (fs : By → Option Fun) (d : Nat) (o : Own) (t : Tr) : evB fs 0 d o t = gt 99 := rfl
theorem evB_1 (fs : By → Option Fun) (g : Nat) (d : Nat) (o : Own) (t : Tr) : evB fs (g + 1) d o t = (match t with
    | .slice [x] [xs] => gb pay fun _ => gb (evS fs g d o x) fun r => if r.1.isSome then gp r else evB fs g d r.2 xs
    | _ => gp (none, o)) := rfl
theorem evS_0 (fs : By → Option Fun) (d : Nat) (o : Own) (t : Tr) : evS fs 0 d o t = gt 99 := rfl
theorem evS_1 (fs : By → Option Fun) (g : Nat) (d : Nat) (o : Own) (t : Tr) : evS fs (g + 1) d o t = (match t with
    | .agg [.lit (.int _ c), .lit (.int _ a), .lit (.string nm), ix, v, th, el] =>
      if c = 3 then gb (evE fs g d o ix) fun i => gb (evE fs g d o v) fun n => gb (putG (own1 o nm).2 i.1 n.1) fun _ => gp (none, o)
      else if c = 4 then gb (evE fs g d o v) fun x => if x.1 ≠ 0 then evB fs g d o th else evB fs g d o el
      else if c = 5 then evW fs g d o v th
      else if c = 6 then gb (evE fs g d o v) fun x => gp (some x.1, o)
      else if c = 7 then gb (evE fs g d o v) fun x => gb (tellG x.1) fun _ => gp (none, o)
      else if c = 8 then gb (evE fs g d o v) fun _ => gp (none, o)
      else gb (evE fs g d o v) fun x => gp (none, (nm, x) :: o)
    | _ => gt 97) := rfl
theorem evW_0 (fs : By → Option Fun) (d : Nat) (o : Own) (v t : Tr) : evW fs 0 d o v t = gt 99 := rfl
theorem evW_1 (fs : By → Option Fun) (g : Nat) (d : Nat) (o : Own) (v th : Tr) : evW fs (g + 1) d o v th = (gb (evE fs g d o v) fun x => if x.1 = 0 then gp (none, o) else gb (evB fs g d o th) fun r => if r.1.isSome then gp r else gb pay fun _ => evW fs g d r.2 v th) := rfl
/-- How a program ends: way, code, what was told. -/
def rnV (g : Nat) (L : List Fun) (inp : List Int) (fuel : Nat) : Int × Int × List Int :=
  match evE (fun nm => L.find? (fun F => F.nm == nm)) g 0 [] (nd 5 0 0 [109, 97, 105, 110] [] .nil .nil ce) ⟨fuel, inp, [], []⟩ with
  | .error (w, out) => (w, 0, out)
  | .ok (v, s) => (1, v.1, s.out)
/-! ### More fuel -/
/-- With more fuel it goes as it went, and perhaps on. -/
def Fm {α : Type} (x : Go1 α) : Prop := ∀ (s : Sg) (k : Nat),
  (∃ a s1, x s = .ok (a, s1) ∧ x (s.plus k) = .ok (a, s1.plus k) ∧ s.out <+: s1.out) ∨
  (∃ w o, x s = .error (w, o) ∧ s.out <+: o ∧ ((w ≠ 6 ∧ x (s.plus k) = .error (w, o)) ∨ (w = 6 ∧ ((∃ a s2, x (s.plus k) = .ok (a, s2) ∧ o <+: s2.out) ∨ (∃ w2 o2, x (s.plus k) = .error (w2, o2) ∧ o <+: o2)))))
theorem Fm.up {α : Type} {x : Go1 α} (h : Fm x) (s : Sg) : (∃ a s1, x s = .ok (a, s1) ∧ s.out <+: s1.out) ∨ (∃ w o, x s = .error (w, o) ∧ s.out <+: o) := by
  rcases h s 0 with ⟨a, s1, h1, _, h2⟩ | ⟨w, o, h1, h2, _⟩
  · exact .inl ⟨a, s1, h1, h2⟩
  · exact .inr ⟨w, o, h1, h2⟩
theorem fm_gp {α : Type} (a : α) : Fm (gp a) := fun s k => .inl ⟨a, s, rfl, rfl, List.prefix_rfl⟩
theorem fm_gt {α : Type} (w : Int) (hw : w ≠ 6) : Fm (gt (α := α) w) := fun s k => .inr ⟨w, s.out, rfl, List.prefix_rfl, .inl ⟨hw, rfl⟩⟩
theorem fm_gb {α β : Type} {x : Go1 α} {f : α → Go1 β} (hx : Fm x) (hf : ∀ a, Fm (f a)) : Fm (gb x f) := fun s k => by
  have eo : ∀ s a s1, x s = .ok (a, s1) → gb x f s = f a s1 := fun s a s1 h => by unfold gb; rw [h]
  have ee : ∀ s e, x s = .error e → gb x f s = .error e := fun s e h => by unfold gb; rw [h]
  rcases hx s k with ⟨a, s1, h1, h2, h3⟩ | ⟨w, o, h1, h2, ⟨h3, h4⟩ | ⟨rfl, h4⟩⟩
  · rw [eo _ _ _ h1, eo _ _ _ h2]
    rcases hf a s1 k with ⟨b, s2, g1, g2, g3⟩ | ⟨w, o, g1, g2, g3⟩
    · exact .inl ⟨b, s2, g1, g2, h3.trans g3⟩
    · exact .inr ⟨w, o, g1, h3.trans g2, g3⟩
  · rw [ee _ _ h1, ee _ _ h4]
    exact .inr ⟨w, o, rfl, h2, .inl ⟨h3, rfl⟩⟩
  · rw [ee _ _ h1]
    refine .inr ⟨6, o, rfl, h2, .inr ⟨rfl, ?_⟩⟩
    rcases h4 with ⟨a, s2, g1, g2⟩ | ⟨w2, o2, g1, g2⟩
    · rw [eo _ _ _ g1]
      rcases (hf a).up s2 with ⟨b, s3, q1, q2⟩ | ⟨w, o3, q1, q2⟩
      · exact .inl ⟨b, s3, q1, g2.trans q2⟩
      · exact .inr ⟨w, o3, q1, g2.trans q2⟩
    · rw [ee _ _ g1]
      exact .inr ⟨w2, o2, rfl, g2⟩
theorem fm_pay : Fm pay := fun s k => by
  unfold pay
  by_cases h : s.fuel = 0
  · refine .inr ⟨6, s.out, if_pos h, List.prefix_rfl, .inr ⟨rfl, ?_⟩⟩
    by_cases h' : (s.plus k).fuel = 0
    · exact .inr ⟨6, s.out, if_pos h', List.prefix_rfl⟩
    · exact .inl ⟨(), _, if_neg h', List.prefix_rfl⟩
  · refine .inl ⟨(), { s with fuel := s.fuel - 1 }, if_neg h, ?_, List.prefix_rfl⟩
    have e : ¬ (s.plus k).fuel = 0 := by show ¬ s.fuel + k = 0; omega
    rw [if_neg e]
    have e2 : s.fuel + k - 1 = s.fuel - 1 + k := by omega
    show Except.ok ((), ({ s with fuel := s.fuel + k - 1 } : Sg)) = _
    rw [e2]
    rfl
theorem fm_tell (n : Int) : Fm (tellG n) := fun s k => by
  by_cases h : 200 ≤ s.out.length
  · exact .inr ⟨7, s.out, if_pos h, List.prefix_rfl, .inl ⟨by decide, if_pos h⟩⟩
  · exact .inl ⟨(), _, if_neg h, if_neg h, List.prefix_append _ _⟩
theorem fm_take : Fm takeG := fun s k => .inl ⟨_, _, rfl, rfl, List.prefix_rfl⟩
theorem fm_new (n : Int) : Fm (newG n) := fun s k => by
  by_cases h : n < 0 ∨ 40 < n
  · exact .inr ⟨4, s.out, if_pos h, List.prefix_rfl, .inl ⟨by decide, if_pos h⟩⟩
  · exact .inl ⟨_, _, if_neg h, if_neg h, List.prefix_rfl⟩
theorem arr_plus (s : Sg) (k : Nat) (q : Option Nat) : arrOf (s.plus k) q = arrOf s q := by cases q <;> rfl
theorem fm_len (q : Option Nat) : Fm (lenG q) := fun s k => .inl ⟨_, s, rfl, (by unfold lenG; rw [arr_plus]), List.prefix_rfl⟩
theorem fm_item (q : Option Nat) (i : Int) : Fm (itemG q i) := fun s k => by
  by_cases h : i < 0 ∨ ((arrOf s q).length : Int) ≤ i
  · exact .inr ⟨3, s.out, if_pos h, List.prefix_rfl, .inl ⟨by decide, by unfold itemG; rw [arr_plus]; exact if_pos h⟩⟩
  · exact .inl ⟨_, s, if_neg h, by unfold itemG; rw [arr_plus]; exact if_neg h, List.prefix_rfl⟩
theorem fm_put (q : Option Nat) (i n : Int) : Fm (putG q i n) := fun s k => by
  by_cases h : i < 0 ∨ ((arrOf s q).length : Int) ≤ i
  · exact .inr ⟨3, s.out, if_pos h, List.prefix_rfl, .inl ⟨by decide, by unfold putG; rw [arr_plus]; exact if_pos h⟩⟩
  · exact .inl ⟨_, _, if_neg h, by unfold putG; rw [arr_plus]; exact if_neg h, List.prefix_rfl⟩
theorem fm_if {α : Type} {c : Prop} [Decidable c] {x y : Go1 α} (hx : Fm x) (hy : Fm y) : Fm (if c then x else y) := by
  split
  · exact hx
  · exact hy
theorem fm_both (op : By) (a b : Int) : Fm (bothG op a b) := by
  unfold bothG
  repeat' first | exact fm_gp _ | exact fm_gt _ (by decide) | refine fm_if ?_ ?_
/-- Whatever is gone through. -/
theorem fm_all (fs : By → Option Fun) : ∀ (g : Nat), (∀ d o t, Fm (evE fs g d o t)) ∧ (∀ d o t, Fm (evA fs g d o t)) ∧ (∀ d o t, Fm (evB fs g d o t)) ∧ (∀ d o t, Fm (evS fs g d o t)) ∧ (∀ d o v t, Fm (evW fs g d o v t))
  | 0 => ⟨fun _ _ _ => by rw [evE_0]; exact fm_gt _ (by decide), fun _ _ _ => by rw [evA_0]; exact fm_gt _ (by decide), fun _ _ _ => by rw [evB_0]; exact fm_gt _ (by decide), fun _ _ _ => by rw [evS_0]; exact fm_gt _ (by decide), fun _ _ _ _ => by rw [evW_0]; exact fm_gt _ (by decide)⟩
  | g + 1 => by
    obtain ⟨iE, iA, iB, iS, iW⟩ := fm_all fs g
    refine ⟨fun d o t => ?_, fun d o t => ?_, fun d o t => ?_, fun d o t => ?_, fun d o v t => ?_⟩
    · rw [evE_1]
      split
      · rename_i nm _ _ _ _
        cases hf : fs nm <;> simp only [hf]
        all_goals repeat' first | exact fm_gp _ | exact fm_gt _ (by decide) | exact iE _ _ _ | exact iA _ _ _ | exact iB _ _ _ | exact fm_new _ | exact fm_len _ | exact fm_item _ _ | exact fm_take | exact fm_both _ _ _ | refine fm_if ?_ ?_ | (refine fm_gb ?_ fun _ => ?_)
      · exact fm_gt _ (by decide)
    · rw [evA_1]
      split
      · exact fm_gb (iE _ _ _) fun _ => fm_gb (iA _ _ _) fun _ => fm_gp _
      · exact fm_gp _
    · rw [evB_1]
      split
      · exact fm_gb fm_pay fun _ => fm_gb (iS _ _ _) fun _ => fm_if (fm_gp _) (iB _ _ _)
      · exact fm_gp _
    · rw [evS_1]
      split
      · repeat' first | exact fm_gp _ | exact fm_gt _ (by decide) | exact iE _ _ _ | exact iW _ _ _ _ | exact iB _ _ _ | exact fm_put _ _ _ | exact fm_tell _ | refine fm_if ?_ ?_ | (refine fm_gb ?_ fun _ => ?_)
      · exact fm_gt _ (by decide)
    · rw [evW_1]
      exact fm_gb (iE _ _ _) fun _ => fm_if (fm_gp _) (fm_gb (iB _ _ _) fun _ => fm_if (fm_gp _) (fm_gb fm_pay fun _ => iW _ _ _ _))
/-- With more fuel a program tells what it told, and perhaps more; if it ended otherwise than for want of fuel, it ends just so. -/
theorem run_fuel (g : Nat) (L : List Fun) (inp : List Int) (a k : Nat) : (rnV g L inp a).2.2 <+: (rnV g L inp (a + k)).2.2 ∧ ((rnV g L inp a).1 ≠ 6 → rnV g L inp (a + k) = rnV g L inp a) := by
  have h := (fm_all (fun nm => L.find? (fun F => F.nm == nm)) g).1 0 [] (nd 5 0 0 [109, 97, 105, 110] [] .nil .nil ce) ⟨a, inp, [], []⟩ k
  have e : (⟨a, inp, [], []⟩ : Sg).plus k = ⟨a + k, inp, [], []⟩ := rfl
  rw [e] at h
  unfold rnV
  rcases h with ⟨v, s1, h1, h2, h3⟩ | ⟨w, o, h1, h2, ⟨h3, h4⟩ | ⟨rfl, ⟨v, s2, h4, h5⟩ | ⟨w2, o2, h4, h5⟩⟩⟩
  · rw [h1, h2]
    exact ⟨List.prefix_rfl, fun _ => rfl⟩
  · rw [h1, h4]
    exact ⟨List.prefix_rfl, fun _ => rfl⟩
  · rw [h1, h4]
    exact ⟨h5, fun h => absurd rfl h⟩
  · rw [h1, h4]
    exact ⟨h5, fun h => absurd rfl h⟩
end Go.Proofs.YtnfhpdbbfejioaaGreatDoor
