/- XG VM XH RA GA GM -/
import Derived.Test.YtnfhpdbbfejioaaGreatDoorQ16
namespace Go.Proofs.YtnfhpdbbfejioaaGreatDoor
set_option linter.unusedVariables false
set_option linter.unusedSimpArgs false
open Go
theorem qZ {x : By} {l l' : List Tok} {u : Unit} (hT : TkOk l) (hx : x ≠ []) (h : zf x l = .ok (u, l')) : TkOk l' ∧ l'.length + 1 = l.length := by
 obtain ⟨e, rfl⟩ := qy h
 exact ⟨hT.tail, qK (by rw [e]; exact hx)⟩
theorem name_re {l l' : List Tok} {nm : By} (hT : TkOk l) (h : zI l = .ok (nm, l')) : Nam nm ∧ TkOk l' ∧ l'.length + 1 = l.length := by
 obtain ⟨hk, rfl, h12, rfl⟩ := name_ok h
 exact ⟨hT.hd.1 hk h12, hT.tail, tl_kind hT (.inl hk)⟩
theorem tok_re {x : By} {l : List Tok} (hT : TkOk l) (h : (hd l).t = x) (hx : x ≠ []) : TkOk l.tail ∧ l.tail.length + 1 = l.length := ⟨hT.tail, qK (by rw [h]; exact hx)⟩
theorem expr_re {l l' : List Tok} {v : Tr} (hT : TkOk l) (h : zU l = .ok (v, l')) : TkOk l' ∧ REx 0 v ∧ (te v).length + l'.length ≤ l.length := by
 obtain ⟨T1, ⟨e, r⟩, r'⟩ : TkOk l' ∧ RL 1 0 v l'.length l.length := j_ _ 0 1 0 .nil 0 l v l' (fun _ => ⟨by omega, by omega⟩) (fun h => by omega) (fun h => by omega) hT h
 rw [hk_len] at r'
 exact ⟨T1, ⟨e, qY _ _ _ _ _ (Nat.le_refl _) (by omega) r⟩, by omega⟩
theorem held_re {l l' : List Tok} {v : Tr} (hT : TkOk l) (h : qC l = .ok (v, l')) : TkOk l' ∧ REx 1 v ∧ (te v).length + 2 + l'.length ≤ l.length :=
 j_ _ 5 0 0 .nil 0 l v l' (fun h => by omega) (fun h => by omega) (fun h => by omega) hT h
theorem idx_re {l l' : List Tok} {v : Tr} (hT : TkOk l) (h : idxV l = .ok (v, l')) : TkOk l' ∧ REx 1 v ∧ (te v).length + 1 + l'.length ≤ l.length :=
 j_ _ 6 0 0 .nil 0 l v l' (fun h => by omega) (fun h => by omega) (fun h => by omega) hT h
theorem args_re {l l' : List Tok} {g : Tr} (hT : TkOk l) (h : argsV l = .ok (g, l')) : TkOk l' ∧ ∃ xs, g = chain xs ∧ (∃ e, ∀ x ∈ xs, RE e 1 x) ∧ (te g).length + 1 + l'.length ≤ l.length := by
 unfold argsV argV at h
 split at h
 ·rename_i h41
  have htl := qK (l := l) (by rw [h41]; simp)
  obtain ⟨rfl, rfl⟩ := zk h
  have e3 : te ce = [] := by unfold te; rw [pc_ce]; rfl
  exact ⟨hT.tail, [], rfl, ⟨0, fun x hx => by simp at hx⟩, by rw [e3]; simp; omega⟩
 ·obtain ⟨T1, xs, _, a, b, c⟩ : TkOk l' ∧ ∃ xs, xs ≠ [] ∧ g = chain xs ∧ (∃ e, ∀ x ∈ xs, RE e (0 + 1) x) ∧ (te g).length + 1 + l'.length ≤ l.length := j_ _ 7 0 0 ce 0 l g l' (fun h => by omega) (fun h => by omega) (fun h => by omega) hT h
  exact ⟨T1, xs, a, b, c⟩
theorem named_re {a : Nat} {l l' : List Tok} {t : Tr} (d : Nat) (hT : TkOk l) (h : zQ a l = .ok (t, l')) : TkOk l' ∧ RS 1 d t ∧ ∀ n, (tm n t).length + l'.length ≤ l.length + 1 := by
 unfold zQ at h
 obtain ⟨nm, l1, h1, h⟩ := za h
 obtain ⟨hn, T1, s1⟩ := name_re hT h1
 split at h
 ·rename_i h40
  obtain ⟨T2, s2⟩ := tok_re T1 h40 (by decide)
  obtain ⟨g, l2, h2, h⟩ := za h
  obtain ⟨T3, xs, rfl, hx, s3⟩ := args_re T2 h2
  obtain ⟨rfl, rfl⟩ := zk h
  refine ⟨T3, ?_, fun n => ?_⟩
  ·rw [RS]
   exact .inr (.inr (.inr (.inr (.inr (.inr (.inr ⟨_, _, nm, xs, hn, hx, rfl⟩))))))
  ·rw [tm_8]
   simp
   omega
 split at h
 ·rename_i h91
  obtain ⟨T2, s2⟩ := tok_re T1 h91 (by decide)
  obtain ⟨g, l2, h2, h⟩ := za h
  obtain ⟨T3, hi, s3⟩ := idx_re T2 h2
  obtain ⟨_, l3, h3, h⟩ := za h
  obtain ⟨T4, s4⟩ := qZ T3 (by decide) h3
  obtain ⟨v, l4, h4, h⟩ := za h
  obtain ⟨T5, hv, s5⟩ := expr_re T4 h4
  obtain ⟨rfl, rfl⟩ := zk h
  refine ⟨T5, ?_, fun n => ?_⟩
  ·rw [RS]
   exact .inr (.inr (.inl ⟨_, nm, _, _, hn, hi, hv, rfl⟩))
  ·rw [tm_3]
   simp
   omega
 ·obtain ⟨_, l3, h3, h⟩ := za h
  obtain ⟨T4, s4⟩ := qZ T1 (by decide) h3
  obtain ⟨v, l4, h4, h⟩ := za h
  obtain ⟨T5, hv, s5⟩ := expr_re T4 h4
  obtain ⟨rfl, rfl⟩ := zk h
  refine ⟨T5, ?_, fun n => ?_⟩
  ·rw [RS]
   exact .inr (.inl ⟨_, nm, _, hn, hv, rfl⟩)
  ·rw [tm_2]
   simp
   omega
def StR (g d : Nat) (l : List Tok) (t : Tr) (l' : List Tok) : Prop := TkOk l' ∧
 (if g = 2 then (∃ e, RS e d t) ∧ ∀ n, (tm n t).length + l'.length ≤ l.length
  else ∃ ys, t = chain ys ∧ (∃ e, ∀ y ∈ ys, RS e (d + 1) y) ∧ (g = 0 → d ≤ 12) ∧ ∀ n, (ts n t).length + (if g = 0 then 2 else 1) + l'.length ≤ l.length)
theorem rs_max {e1 e2 d d' : Nat} {xs ys : List Tr} (h1 : ∀ x ∈ xs, RS e1 d x) (h2 : ∀ y ∈ ys, RS e2 d' y) : (∀ x ∈ xs, RS (max e1 e2) d x) ∧ (∀ y ∈ ys, RS (max e1 e2) d' y) := ⟨fun x hx => rs_mono _ _ _ _ (Nat.le_max_left _ _) (h1 x hx), fun x hx => rs_mono _ _ _ _ (Nat.le_max_right _ _) (h2 x hx)⟩
theorem st_re : ∀ (f g d : Nat) (l : List Tok) (t : Tr) (l' : List Tok), TkOk l → stV f g d l = .ok (t, l') → StR g d l t l'
 | 0, _, _, _, _, _, _, h => by simp [stV] at h
 | f + 1, 0, d, l, t, l', hT, h => by
  rw [stV] at h
  obtain ⟨_, _, hb, h⟩ := za h
  obtain ⟨_, l1, h1, h⟩ := za h
  obtain ⟨T1, s1⟩ := qZ hT (by decide) h1
  have h12 : d ≤ 12 := by
   have hk : (hd l).k ≠ 3 := fun e => by
    have := hT.hd.2.2 e
    rw [(qy h1).1] at this
    cases this
   unfold qU at hb
   split at hb
   ·cases hb
   ·rename_i hno
    rcases Nat.lt_or_ge 12 d with hd | hd
    ·exact absurd ⟨hd, hk⟩ hno
    ·exact hd
  obtain ⟨T2, ys, e1, e2, _, e3⟩ : TkOk l' ∧ ∃ ys, t = chain ys ∧ (∃ e, ∀ y ∈ ys, RS e (d + 1) y) ∧ (1 = 0 → d ≤ 12) ∧ ∀ n, (ts n t).length + 1 + l'.length ≤ l1.length := st_re f 1 d l1 t l' T1 h
  exact ⟨T2, ys, e1, e2, fun _ => h12, fun n => by have := e3 n; show (ts n t).length + 2 + l'.length ≤ _; omega⟩
 | f + 1, 1, d, l, t, l', hT, h => by
  rw [stV] at h
  split at h
  ·rename_i h1
   obtain ⟨T1, s1⟩ := tok_re hT h1 (by decide)
   obtain ⟨rfl, rfl⟩ := zk h
   exact ⟨T1, [], rfl, ⟨0, fun x hx => by simp at hx⟩, fun e => (by cases e), fun n => by rw [ts_ce]; show 0 + 1 + _ ≤ _; omega⟩
  ·obtain ⟨t1, l1, h1, h⟩ := za h
   obtain ⟨T1, ⟨e1, r1⟩, r2⟩ : TkOk l1 ∧ (∃ e, RS e (d + 1) t1) ∧ ∀ n, (tm n t1).length + l1.length ≤ l.length := st_re f 2 (d + 1) l t1 l1 hT h1
   obtain ⟨g, l2, h2, h⟩ := za h
   obtain ⟨T2, ys, rfl, ⟨e2, r3⟩, _, r4⟩ : TkOk l2 ∧ ∃ ys, g = chain ys ∧ (∃ e, ∀ y ∈ ys, RS e (d + 1) y) ∧ (1 = 0 → d ≤ 12) ∧ ∀ n, (ts n g).length + 1 + l2.length ≤ l1.length := st_re f 1 d l1 g l2 T1 h2
   obtain ⟨rfl, rfl⟩ := zk h
   refine ⟨T2, t1 :: ys, rfl, ⟨max e1 e2, fun y hy => ?_⟩, fun e => (by cases e), fun n => ?_⟩
   ·rcases List.mem_cons.1 hy with rfl | hy
    ·exact rs_mono _ _ _ _ (Nat.le_max_left _ _) r1
    ·exact rs_mono _ _ _ _ (Nat.le_max_right _ _) (r3 y hy)
   ·rw [ts_cc r1]
    have a1 := r2 (n + 2)
    have a2 := r4 n
    show (tm (n + 2) t1 ++ ts n (chain ys)).length + 1 + l2.length ≤ l.length
    rw [List.length_append]
    omega
 | f + 1, 2, d, l, t, l', hT, h => by
  show TkOk l' ∧ (∃ e, RS e d t) ∧ ∀ n, (tm n t).length + l'.length ≤ l.length
  rw [stV] at h
  split at h
  ·obtain ⟨t1, l1, h1, h⟩ := za h
   obtain ⟨T1, r1, r2⟩ := named_re d hT h1
   obtain ⟨_, l2, h2, h⟩ := za h
   obtain ⟨T2, s2⟩ := qZ T1 (by decide) h2
   obtain ⟨rfl, rfl⟩ := zk h
   exact ⟨T2, ⟨1, r1⟩, fun n => by have := r2 n; omega⟩
  split at h
  ·rename_i h0
   obtain ⟨T0, s0⟩ := tok_re hT h0 (by decide)
   obtain ⟨nm, l1, h1, h⟩ := za h
   obtain ⟨hn, T1, s1⟩ := name_re T0 h1
   obtain ⟨_, l2, h2, h⟩ := za h
   obtain ⟨T2, s2⟩ := qZ T1 (by decide) h2
   obtain ⟨v, l3, h3, h⟩ := za h
   obtain ⟨T3, hv, s3⟩ := expr_re T2 h3
   obtain ⟨_, l4, h4, h⟩ := za h
   obtain ⟨T4, s4⟩ := qZ T3 (by decide) h4
   obtain ⟨rfl, rfl⟩ := zk h
   refine ⟨T4, ⟨1, ?_⟩, fun n => ?_⟩
   ·rw [RS]
    exact .inl ⟨_, nm, _, hn, hv, rfl⟩
   ·rw [tm_1]
    simp
    omega
  split at h
  ·rename_i h0
   obtain ⟨T0, s0⟩ := tok_re hT h0 (by decide)
   obtain ⟨v, l3, h3, h⟩ := za h
   obtain ⟨T3, hv, s3⟩ := expr_re T0 h3
   obtain ⟨_, l4, h4, h⟩ := za h
   obtain ⟨T4, s4⟩ := qZ T3 (by decide) h4
   obtain ⟨rfl, rfl⟩ := zk h
   refine ⟨T4, ⟨1, ?_⟩, fun n => ?_⟩
   ·rw [RS]
    exact .inr (.inr (.inr (.inr (.inr (.inl ⟨_, _, hv, rfl⟩)))))
   ·rw [tm_6]
    simp
    omega
  split at h
  ·rename_i h0
   obtain ⟨T0, s0⟩ := tok_re hT h0 (by decide)
   obtain ⟨v, l3, h3, h⟩ := za h
   obtain ⟨T3, hv, s3⟩ := expr_re T0 h3
   obtain ⟨_, l4, h4, h⟩ := za h
   obtain ⟨T4, s4⟩ := qZ T3 (by decide) h4
   obtain ⟨rfl, rfl⟩ := zk h
   refine ⟨T4, ⟨1, ?_⟩, fun n => ?_⟩
   ·rw [RS]
    exact .inr (.inr (.inr (.inr (.inr (.inr (.inl ⟨_, _, hv, rfl⟩))))))
   ·rw [tm_7]
    simp
    omega
  split at h
  ·rename_i h0
   obtain ⟨T0, s0⟩ := tok_re hT h0 (by decide)
   obtain ⟨v, l3, h3, h⟩ := za h
   obtain ⟨T3, hv, s3⟩ := held_re T0 h3
   obtain ⟨th, l4, h4, h⟩ := za h
   obtain ⟨T4, xs, rfl, ⟨e1, r1⟩, h12, r2⟩ : TkOk l4 ∧ ∃ ys, th = chain ys ∧ (∃ e, ∀ y ∈ ys, RS e (d + 1) y) ∧ (0 = 0 → d ≤ 12) ∧ ∀ n, (ts n th).length + 2 + l4.length ≤ l3.length := st_re f 0 d l3 th l4 T3 h4
   split at h
   ·rename_i h5
    obtain ⟨T5, s5⟩ := tok_re T4 h5 (by decide)
    obtain ⟨el, l6, h6, h⟩ := za h
    obtain ⟨T6, ys, rfl, ⟨e2, r3⟩, _, r4⟩ : TkOk l6 ∧ ∃ ys, el = chain ys ∧ (∃ e, ∀ y ∈ ys, RS e (d + 1) y) ∧ (0 = 0 → d ≤ 12) ∧ ∀ n, (ts n el).length + 2 + l6.length ≤ l4.tail.length := st_re f 0 d l4.tail el l6 T5 h6
    obtain ⟨rfl, rfl⟩ := zk h
    obtain ⟨m1, m2⟩ := rs_max r1 r3
    refine ⟨T6, ⟨max e1 e2 + 1, ?_⟩, fun n => ?_⟩
    ·rw [RS]
     exact .inr (.inr (.inr (.inl ⟨_, _, xs, ys, h12 rfl, hv, m1, m2, rfl⟩)))
    ·rw [tm_4]
     have a1 := r2 n
     have a2 := r4 n
     split
     ·simp only [List.length_cons, List.length_append, List.length_nil]
      omega
     ·simp only [List.length_cons, List.length_append, List.length_nil]
      omega
   ·obtain ⟨rfl, rfl⟩ := zk h
    refine ⟨T4, ⟨e1 + 1, ?_⟩, fun n => ?_⟩
    ·rw [RS]
     exact .inr (.inr (.inr (.inl ⟨_, _, xs, [], h12 rfl, hv, r1, fun y hy => by simp at hy, rfl⟩)))
    ·rw [tm_4]
     have a1 := r2 n
     rw [if_pos (show isCe ce = true from rfl)]
     simp only [List.length_cons, List.length_append, List.length_nil]
     omega
  split at h
  ·rename_i h0
   obtain ⟨T0, s0⟩ := tok_re hT h0 (by decide)
   obtain ⟨v, l3, h3, h⟩ := za h
   obtain ⟨T3, hv, s3⟩ := held_re T0 h3
   obtain ⟨th, l4, h4, h⟩ := za h
   obtain ⟨T4, xs, rfl, ⟨e1, r1⟩, h12, r2⟩ : TkOk l4 ∧ ∃ ys, th = chain ys ∧ (∃ e, ∀ y ∈ ys, RS e (d + 1) y) ∧ (0 = 0 → d ≤ 12) ∧ ∀ n, (ts n th).length + 2 + l4.length ≤ l3.length := st_re f 0 d l3 th l4 T3 h4
   obtain ⟨rfl, rfl⟩ := zk h
   refine ⟨T4, ⟨e1 + 1, ?_⟩, fun n => ?_⟩
   ·rw [RS]
    exact .inr (.inr (.inr (.inr (.inl ⟨_, _, xs, h12 rfl, hv, r1, rfl⟩))))
   ·rw [tm_5]
    have a1 := r2 n
    simp only [List.length_cons, List.length_append, List.length_nil]
    omega
  ·cases h
 | f + 1, g + 3, d, l, t, l', hT, h => by simp [stV] at h
end Go.Proofs.YtnfhpdbbfejioaaGreatDoor
namespace Go.Proofs.YtnfhpdbbfejioaaGreatDoor
set_option linter.unusedVariables false
set_option linter.unusedSimpArgs false
set_option maxRecDepth 100000
set_option maxHeartbeats 4000000
open Go Go.RowKit
theorem parse_parts {s : By} {t : Tr} (h : zO s = .ok t) : ∃ l c, tokV s = .ok l ∧ zT (l.length + 1) 0 l = .ok (t, c) := by
 unfold zO at h
 split at h
 ·cases h
 ·rename_i l hl
  split at h
  ·cases h
  ·rename_i t' l' hp
   injection h with h
   subst h
   exact ⟨l, l', hl, hp⟩
def tyW (n : Int) : By := if n = 2 then [97, 114, 114] else [105, 110, 116]
def pcA (x : By × Int) : List Pc := [⟨0, x.1⟩, fx [58], bl 32, fx (tyW x.2)]
def pcP : List (By × Int) → List Pc
 | [] => []
 | [x] => pcA x
 | x :: y :: xs => pcA x ++ (fx [44] :: bl 32 :: pcP (y :: xs))
def pcF (F : Fun) : List Pc := fx [102, 110] :: bl 32 :: ⟨0, F.nm⟩ :: ((fx [40] :: (pcP F.ps ++ [fx [41]])) ++ (pcB 0 F.body ++ [bl 10]))
def pcL (L : List Fun) : List Pc := L.flatMap pcF
def PaOk (x : By × Int) : Prop := Nam x.1 ∧ (x.2 = 1 ∨ x.2 = 2)
def RF (F : Fun) : Prop := F.kd = .i64 ∧ Nam F.nm ∧ (∀ x ∈ F.ps, PaOk x) ∧ ∃ xs e, F.body = chain xs ∧ ∀ x ∈ xs, RS e 1 x
theorem ty_word {n : Int} : tyW n ∈ wordsL := by
 unfold tyW
 split <;> decide
theorem fb_pars : ∀ xs : List (By × Int), (∀ x ∈ xs, PaOk x) → Fb (pcP xs) (paT xs)
 | [], _ => ⟨fun x hx => by simp [pcP] at hx, fun c _ => rfl, rfl⟩
 | [x], h => by
  obtain ⟨hn, _⟩ := h x (by simp)
  refine ⟨fun z hz => ?_, fun c hc => ?_, ?_⟩
  ·simp only [pcP, pcA, List.mem_cons, List.not_mem_nil, or_false] at hz
   rcases hz with rfl | rfl | rfl | rfl
   ·exact .inr (.inl ⟨rfl, hn⟩)
   ·exact okm _ (by decide)
   ·exact ok32
   ·exact okw _ ty_word
  ·refine zZ _ _ _ (ok1_al _ _ (nam_al hn) (by show alnum.contains 58 = false; decide)) (zZ _ _ _ (ok1_any _ _ (by decide)) (zZ _ _ _ (ok1_blank _ _) (sep_one _ _ (ok1_al _ _ ?_ hc))))
   show alnum.contains ((tyW x.2).headD 0) = true
   unfold tyW
   split <;> decide
  ·simp [pcP, pcA, paT, paO, txt, tyW]
 | x :: y :: xs, h => by
  obtain ⟨hn, _⟩ := h x (by simp)
  have ih := fb_pars (y :: xs) (fun z hz => h z (by simp [hz]))
  refine ⟨fun z hz => ?_, fun c hc => ?_, ?_⟩
  ·simp only [pcP, pcA, List.mem_append, List.mem_cons, List.not_mem_nil, or_false] at hz
   rcases hz with (rfl | rfl | rfl | rfl) | rfl | rfl | hz
   ·exact .inr (.inl ⟨rfl, hn⟩)
   ·exact okm _ (by decide)
   ·exact ok32
   ·exact okw _ ty_word
   ·exact okm _ (by decide)
   ·exact ok32
   ·exact ih.ok z hz
  ·rw [pcP]
   refine sep_two _ _ _ ?_ (zZ _ _ _ (ok1_any _ _ (by decide)) (zZ _ _ _ (ok1_blank _ _) (ih.sep c hc)))
   refine zZ _ _ _ (ok1_al _ _ (nam_al hn) (by show alnum.contains 58 = false; decide)) (zZ _ _ _ (ok1_any _ _ (by decide)) (zZ _ _ _ (ok1_blank _ _) (sep_one _ _ (ok1_al _ _ ?_ (by show alnum.contains 44 = false; decide)))))
   show alnum.contains ((tyW x.2).headD 0) = true
   unfold tyW
   split <;> decide
  ·have := ih.tx
   rw [pcP, paT, txt_app, txt_cons, txt_cons, this]
   simp [pcA, paO, txt, tyW]
theorem rf_fc {F : Fun} (h : RF F) : Fc (pcF F) (fuT F) := by
 obtain ⟨_, hn, hp, xs, e, hb, hx⟩ := h
 have h1 : Fc (pcB 0 F.body) (blT (qV 0) F.body) := by
  rw [hb]
  exact fc_block (fc_sts 0 (fun t ht m => rs_fc _ _ t ht m) xs hx)
 have h2 : Fc (pcB 0 F.body ++ [bl 10]) (blT [] F.body ++ [10]) := fc_app h1 (fc_10 fc_nil)
 have h3 := fc_in (fb_pars F.ps hp) [40] [41] (by decide) (by decide) (by decide) (by decide) (by decide) h2
 have h4 := fc_wb [102, 110] (by decide) (fc_nb hn h3 (fun c => by show alnum.contains 40 = false; decide))
 unfold pcF fuT
 simpa using h4
theorem rl_fc : ∀ L : List Fun, (∀ F ∈ L, RF F) → Fc (pcL L) (prT L)
 | [], _ => fc_nil
 | F :: L, h => by
  have := fc_app (rf_fc (h F (by simp))) (rl_fc L (fun G hG => h G (by simp [hG])))
  simpa [pcL, prT] using this
theorem ta_eq (x : By × Int) (q : List Pc) : tks (pcA x ++ q) = nt x.1 :: tk [58] :: tk (tyW x.2) :: tks q := by
 show tks (⟨0, x.1⟩ :: fx [58] :: bl 32 :: fx (tyW x.2) :: q) = _
 rw [tks_nm, zj, zV, zj]
theorem par_x {x : By × Int} (h : PaOk x) (rest : List Tok) : parV (nt x.1 :: tk [58] :: tk (tyW x.2) :: rest) = .ok (pr x.1 x.2, rest) := by
 unfold parV
 rw [name_r h.1, zh, zX, zh]
 rcases h.2 with e | e
 ·have : tyW x.2 = [105, 110, 116] := by rw [e]; rfl
  rw [this, if_neg (by show ¬ ([105, 110, 116] : By) = _; decide), zX, zh, e]
 ·have : tyW x.2 = [97, 114, 114] := by rw [e]; rfl
  rw [this, if_pos (by rfl), e]
  rfl
theorem parl_x : ∀ (xs : List (By × Int)), xs ≠ [] → (∀ x ∈ xs, PaOk x) → ∀ F rest, xs.length ≤ F → qe F (tks (pcP xs) ++ (tk [41] :: rest)) = .ok (psT xs, rest)
 | [], h, _, _, _, _ => absurd rfl h
 | [x], _, h, F, rest, hF => by
  obtain ⟨G, rfl⟩ : ∃ G, F = G + 1 := ⟨F - 1, by simp at hF; omega⟩
  have e : tks (pcP [x]) = nt x.1 :: tk [58] :: tk (tyW x.2) :: [] := by
   have := ta_eq x []
   rw [List.append_nil] at this
   exact this
  rw [e]
  show qe (G + 1) (nt x.1 :: tk [58] :: tk (tyW x.2) :: (tk [41] :: rest)) = _
  rw [qe, par_x (h x (by simp)), zh, if_neg (by show ¬ ([41] : By) = [44]; decide), zX, zh]
  rfl
 | x :: y :: xs, _, h, F, rest, hF => by
  obtain ⟨G, rfl⟩ : ∃ G, F = G + 1 := ⟨F - 1, by simp at hF; omega⟩
  have ih := parl_x (y :: xs) (by simp) (fun z hz => h z (by simp [hz])) G rest (by simp at hF ⊢; omega)
  rw [pcP, ta_eq, zj, zV]
  show qe (G + 1) (nt x.1 :: tk [58] :: tk (tyW x.2) :: (tk [44] :: (tks (pcP (y :: xs)) ++ (tk [41] :: rest)))) = _
  rw [qe, par_x (h x (by simp)), zh, if_pos (by rfl)]
  show bnd (qe G (tks (pcP (y :: xs)) ++ (tk [41] :: rest))) _ = _
  rw [ih, zh]
  rfl
theorem pcP_len : ∀ xs : List (By × Int), xs.length ≤ (tks (pcP xs)).length
 | [] => by simp
 | [x] => by
  have := ta_eq x []
  rw [List.append_nil] at this
  rw [pcP, this]
  simp
 | x :: y :: xs => by
  have ih := pcP_len (y :: xs)
  rw [pcP, ta_eq, zj, zV]
  simp at ih ⊢
  omega
theorem pars_x (xs : List (By × Int)) (h : ∀ x ∈ xs, PaOk x) (rest : List Tok) : parsV (tks (pcP xs) ++ (tk [41] :: rest)) = .ok (psT xs, rest) := by
 unfold parsV
 cases xs with
 | nil =>
  rw [pcP, zv, List.nil_append, if_pos (by rfl)]
  rfl
 | cons x xs =>
  have hne : (hd (tks (pcP (x :: xs)) ++ (tk [41] :: rest))).t ≠ [41] := by
   have : ∃ q, tks (pcP (x :: xs)) = nt x.1 :: q := by
    cases xs with
    | nil => exact ⟨_, by have := ta_eq x []; rw [List.append_nil] at this; exact this⟩
    | cons y xs => exact ⟨_, by rw [pcP, ta_eq]⟩
   obtain ⟨q, e⟩ := this
   rw [e]
   exact al_not 41 (h x (by simp)).1.2.1 rfl (by decide)
  rw [if_neg hne]
  refine parl_x (x :: xs) (by simp) h _ rest ?_
  have := pcP_len (x :: xs)
  simp at this ⊢
  omega
theorem tf_eq (F : Fun) : tks (pcF F) = tk [102, 110] :: nt F.nm :: tk [40] :: (tks (pcP F.ps) ++ (tk [41] :: tk [123] :: (ts 0 F.body ++ [tk [125]]))) := by
 unfold pcF
 rw [zj, zV, tks_nm, zo, zj, zo, zo, tb_eq, zj, zv, zV, zv]
 simp
theorem fn_x {F : Fun} (h : RF F) (rest : List Tok) : fnV (tks (pcF F) ++ rest) = .ok ((erF F).tr, rest) := by
 obtain ⟨hk, hn, hp, xs, e, hb, hx⟩ := h
 have e1 : tks (pcF F) ++ rest = tk [102, 110] :: nt F.nm :: tk [40] :: (tks (pcP F.ps) ++ (tk [41] :: tk [123] :: (ts 0 F.body ++ (tk [125] :: rest)))) := by rw [tf_eq]; simp
 rw [e1]
 unfold fnV
 rw [zX, zh, name_r hn, zh, zX, zh, pars_x F.ps hp, zh]
 unfold blockV
 rw [hb, block_x 0 (fun t ht => st_x e _ t ht) (by omega) xs hx _ rest (by simp; omega), zh]
 unfold erF Fun.tr
 rw [hk, hb]
 rfl
theorem prog_x : ∀ (L : List Fun), (∀ F ∈ L, RF F) → ∀ G k, L.length + 1 ≤ G → k + L.length ≤ 12 → zT G k (tks (pcL L) ++ [nu0]) = .ok (chain ((L.map erF).map Fun.tr), [nu0])
 | [], _, G, k, hG, hk => by
  obtain ⟨G, rfl⟩ : ∃ G', G = G' + 1 := ⟨G - 1, by omega⟩
  show zT (G + 1) k [nu0] = _
  rw [zT, if_pos (by rfl)]
  rfl
 | F :: L, h, G, k, hG, hk => by
  obtain ⟨G, rfl⟩ : ∃ G', G = G' + 1 := ⟨G - 1, by omega⟩
  simp only [List.length_cons] at hG hk
  have e1 : tks (pcL (F :: L)) ++ [nu0] = tks (pcF F) ++ (tks (pcL L) ++ [nu0]) := by
   show tks (pcF F ++ pcL L) ++ [nu0] = _
   rw [zo, List.append_assoc]
  have hh : (hd (tks (pcF F) ++ (tks (pcL L) ++ [nu0]))).k = 1 := by rw [tf_eq]; rfl
  rw [e1, zT, if_neg (by rw [hh]; decide), if_neg (by omega), fn_x (h F (by simp)), zh, prog_x L (fun z hz => h z (by simp [hz])) G (k + 1) (by omega) (by omega), zh]
  rfl
theorem par_re {l l' : List Tok} {t : Tr} (hT : TkOk l) (h : parV l = .ok (t, l')) : TkOk l' ∧ ∃ x : By × Int, t = pr x.1 x.2 ∧ PaOk x ∧ 3 + l'.length = l.length := by
 unfold parV at h
 obtain ⟨nm, l1, h1, h⟩ := za h
 obtain ⟨hn, T1, s1⟩ := name_re hT h1
 obtain ⟨_, l2, h2, h⟩ := za h
 obtain ⟨T2, s2⟩ := qZ T1 (by decide) h2
 split at h
 ·rename_i h3
  obtain ⟨T3, s3⟩ := tok_re T2 h3 (by decide)
  obtain ⟨rfl, rfl⟩ := zk h
  exact ⟨T3, (nm, 2), rfl, ⟨hn, .inr rfl⟩, by omega⟩
 ·obtain ⟨_, l3, h3, h⟩ := za h
  obtain ⟨T3, s3⟩ := qZ T2 (by decide) h3
  obtain ⟨rfl, rfl⟩ := zk h
  exact ⟨T3, (nm, 1), rfl, ⟨hn, .inl rfl⟩, by omega⟩
theorem parl_re : ∀ (f : Nat) {l l' : List Tok} {t : Tr}, TkOk l → qe f l = .ok (t, l') → TkOk l' ∧ ∃ xs : List (By × Int), xs ≠ [] ∧ t = psT xs ∧ (∀ x ∈ xs, PaOk x) ∧ (tks (pcP xs)).length + 1 + l'.length ≤ l.length
 | 0, l, l', t, hT, h => by simp [qe] at h
 | f + 1, l, l', t, hT, h => by
  rw [qe] at h
  obtain ⟨x, l1, h1, h⟩ := za h
  obtain ⟨T1, p, rfl, q1, s1⟩ := par_re hT h1
  split at h
  ·rename_i h2
   obtain ⟨T2, s2⟩ := tok_re T1 h2 (by decide)
   obtain ⟨g, l3, h3, h⟩ := za h
   obtain ⟨T3, xs, hne, rfl, q2, q3⟩ := parl_re f T2 h3
   obtain ⟨rfl, rfl⟩ := zk h
   refine ⟨T3, p :: xs, by simp, rfl, fun z hz => ?_, ?_⟩
   ·rcases List.mem_cons.1 hz with rfl | hz
    ·exact q1
    ·exact q2 z hz
   ·cases xs with
    | nil => exact absurd rfl hne
    | cons y xs =>
     rw [pcP, ta_eq, zj, zV]
     simp only [List.length_cons]
     omega
  ·obtain ⟨_, l3, h3, h⟩ := za h
   obtain ⟨T3, s3⟩ := qZ T1 (by decide) h3
   obtain ⟨rfl, rfl⟩ := zk h
   refine ⟨T3, [p], by simp, rfl, fun z hz => by rw [List.mem_singleton] at hz; rw [hz]; exact q1, ?_⟩
   have := ta_eq p []
   rw [List.append_nil] at this
   rw [pcP, this]
   simp only [List.length_cons, List.length_nil, zv]
   omega
theorem pars_re {l l' : List Tok} {t : Tr} (hT : TkOk l) (h : parsV l = .ok (t, l')) : TkOk l' ∧ ∃ xs : List (By × Int), t = psT xs ∧ (∀ x ∈ xs, PaOk x) ∧ (tks (pcP xs)).length + 1 + l'.length ≤ l.length := by
 unfold parsV at h
 split at h
 ·rename_i h2
  obtain ⟨T2, s2⟩ := tok_re hT h2 (by decide)
  obtain ⟨rfl, rfl⟩ := zk h
  exact ⟨T2, [], rfl, fun x hx => by simp at hx, by rw [pcP, zv]; simp; omega⟩
 ·obtain ⟨T, xs, _, a, b, c⟩ := parl_re _ hT h
  exact ⟨T, xs, a, b, c⟩
theorem fn_re {l l' : List Tok} {t : Tr} (hT : TkOk l) (h : fnV l = .ok (t, l')) : TkOk l' ∧ ∃ F : Fun, t = F.tr ∧ RF F ∧ (tks (pcF F)).length + l'.length ≤ l.length := by
 unfold fnV at h
 obtain ⟨_, l1, h1, h⟩ := za h
 obtain ⟨T1, s1⟩ := qZ hT (by decide) h1
 obtain ⟨nm, l2, h2, h⟩ := za h
 obtain ⟨hn, T2, s2⟩ := name_re T1 h2
 obtain ⟨_, l3, h3, h⟩ := za h
 obtain ⟨T3, s3⟩ := qZ T2 (by decide) h3
 obtain ⟨ps, l4, h4, h⟩ := za h
 obtain ⟨T4, xs, rfl, hp, s4⟩ := pars_re T3 h4
 obtain ⟨b, l5, h5, h⟩ := za h
 obtain ⟨T5, ys, rfl, ⟨e, hy⟩, _, s5⟩ : TkOk l5 ∧ ∃ ys, b = chain ys ∧ (∃ e, ∀ y ∈ ys, RS e (0 + 1) y) ∧ (0 = 0 → 0 ≤ 12) ∧ ∀ n, (ts n b).length + 2 + l5.length ≤ l4.length := st_re _ 0 0 l4 b l5 T4 h5
 obtain ⟨rfl, rfl⟩ := zk h
 refine ⟨T5, ⟨nm, .i64, (hd l).p, xs, chain ys⟩, rfl, ⟨rfl, hn, hp, ys, e, rfl, hy⟩, ?_⟩
 rw [tf_eq]
 have := s5 0
 simp only [List.length_cons, List.length_append, List.length_nil]
 omega
theorem prog_re : ∀ (f n : Nat) {l l' : List Tok} {t : Tr}, TkOk l → Ends l → zT f n l = .ok (t, l') → ∃ L : List Fun, t = chain (L.map Fun.tr) ∧ (∀ F ∈ L, RF F) ∧ (tks (pcL L)).length + 1 ≤ l.length
 | 0, n, l, l', t, hT, he, h => by simp [zT] at h
 | f + 1, n, l, l', t, hT, he, h => by
  rw [zT] at h
  split at h
  ·obtain ⟨rfl, rfl⟩ := zk h
   exact ⟨[], rfl, fun F hF => by simp at hF, by have := he.pos; simpa [pcL, tks] using this⟩
  split at h
  ·cases h
  ·obtain ⟨x, l1, h1, h⟩ := za h
   obtain ⟨e1, _⟩ := fn_tail h1 he
   obtain ⟨T1, F, rfl, gF, q1⟩ := fn_re hT h1
   obtain ⟨g, l2, h2, h⟩ := za h
   obtain ⟨L, rfl, gL, q2⟩ := prog_re f (n + 1) T1 e1 h2
   obtain ⟨rfl, rfl⟩ := zk h
   refine ⟨F :: L, rfl, fun G hG => ?_, ?_⟩
   ·rcases List.mem_cons.1 hG with rfl | hG
    ·exact gF
    ·exact gL G hG
   ·show (tks (pcF F ++ pcL L)).length + 1 ≤ _
    rw [zo, List.length_append]
    omega
theorem one_tk {rest : By} {k : Nat} {t : By} (h : qF rest = some (k, t)) : (k = 0 → t.length ≤ 12 → Nam t) ∧ (k = 2 → Dig t) := by
 have tw : ∀ (set s : By), ∀ c ∈ qw s set, set.contains c = true := fun set s c hc => by
  unfold qw at hc
  have := List.all_takeWhile (p := fun x => set.contains x) (l := s)
  exact List.all_eq_true.1 this c hc
 unfold qF at h
 split at h
 ·rename_i hd'
  injection h with h
  injection h with h1 h2
  subst h1
  subst h2
  exact ⟨fun e => by omega, fun _ => ⟨hd', tw digs rest⟩⟩
 ·rename_i hd'
  split at h
  ·rename_i ha
   injection h with h
   injection h with h1 h2
   subst h1
   subst h2
   refine ⟨fun e h12 => ⟨ha, tw alnum rest, ?_, ?_, h12⟩, fun e => ?_⟩
   ·cases rest with
    | nil => exact absurd rfl ha
    | cons c r =>
     have hc : digs.contains c = false := by
      cases hcc : digs.contains c with
      | false => rfl
      | true =>
       refine absurd ?_ hd'
       unfold qw
       rw [List.takeWhile_cons, hcc, if_pos rfl]
       simp
     have hal : (qw (c :: r) (lets ++ digs)).headD 0 = c := by
      unfold qw at ha ⊢
      rw [List.takeWhile_cons] at ha ⊢
      split
      ·rfl
      ·rename_i hf
       rw [if_neg hf] at ha
       exact absurd rfl ha
     rw [hal]
     exact hc
   ·cases hw : wordsL.contains (qw rest (lets ++ digs)) with
    | false => rfl
    | true => rw [if_pos hw] at e; cases e
   ·split at e <;> cases e
  ·obtain ⟨m, hm, he⟩ := Option.map_eq_some_iff.1 h
   injection he with h1 h2
   exact ⟨fun e => by omega, fun e => by omega⟩
theorem cut_tk (n : Nat) : ∀ (f : Nat) (rest : By) (l r : List Tok), TkOk l → cutV n f rest l = .ok r → TkOk r
 | 0, rest, l, r, hT, h => by
  rw [cutV] at h
  injection h with h
  subst h
  exact hT
 | f + 1, rest, l, r, hT, h => by
  rw [cutV] at h
  split at h
  ·injection h with h
   subst h
   intro x hx
   rcases List.mem_append.1 hx with hx | hx
   ·exact hT x hx
   ·rw [List.mem_singleton] at hx
    subst hx
    exact ⟨fun e => (by cases e), fun e => (by cases e), fun _ => rfl⟩
  ·split at h
   ·cases h
   ·rename_i k t ho
    split at h
    ·cases h
    ·refine cut_tk n f _ _ r (fun x hx => ?_) h
     rcases List.mem_append.1 hx with hx | hx
     ·exact hT x hx
     ·rw [List.mem_singleton] at hx
      subst hx
      have := one_tk ho
      have hk := one_kind ho
      exact ⟨this.1, this.2, fun e => by have e' : k = 3 := e; omega⟩
theorem tok_tk {s : By} {r : List Tok} (h : tokV s = .ok r) : TkOk r := cut_tk _ _ _ [] r (fun x hx => by simp at hx) h
theorem pcL_len : ∀ L : List Fun, L.length ≤ (tks (pcL L)).length
 | [] => by simp
 | F :: L => by
  have ih := pcL_len L
  show _ ≤ (tks (pcF F ++ pcL L)).length
  rw [zo, List.length_append, tf_eq]
  simp only [List.length_cons]
  omega
structure Sg where
 fuel : Nat
 inp : List Int
 out : List Int
 hp : List (List Int)
def Sg.plus (s : Sg) (k : Nat) : Sg := { s with fuel := s.fuel + k }
abbrev Vl := Int × Option Nat
abbrev Own := List (By × Vl)
abbrev Go1 (α : Type) := Sg → Except (Int × List Int) (α × Sg)
def gp {α : Type} (a : α) : Go1 α := fun s => .ok (a, s)
def gb {α β : Type} (x : Go1 α) (f : α → Go1 β) : Go1 β := fun s =>
 match x s with
 | .error e => .error e
 | .ok (a, s1) => f a s1
def gt {α : Type} (w : Int) : Go1 α := fun s => .error (w, s.out)
def pay : Go1 Unit := fun s => if s.fuel = 0 then .error (6, s.out) else .ok ((), { s with fuel := s.fuel - 1 })
def tellG (n : Int) : Go1 Unit := fun s => if 200 ≤ s.out.length then .error (7, s.out) else .ok ((), { s with out := s.out ++ [n] })
def takeG : Go1 Int := fun s => .ok (s.inp.headD 0, { s with inp := s.inp.tail })
def newG (n : Int) : Go1 Vl := fun s => if n < 0 ∨ 40 < n then .error (4, s.out) else .ok ((0, some s.hp.length), { s with hp := s.hp ++ [List.replicate n.toNat 0] })
def arrOf (s : Sg) : Option Nat → List Int
 | none => []
 | some i => s.hp.getD i []
def lenG (q : Option Nat) : Go1 Int := fun s => .ok (((arrOf s q).length : Int), s)
def itemG (q : Option Nat) (i : Int) : Go1 Int := fun s => if i < 0 ∨ ((arrOf s q).length : Int) ≤ i then .error (3, s.out) else .ok ((arrOf s q).getD i.toNat 0, s)
def putG (q : Option Nat) (i n : Int) : Go1 Unit := fun s => if i < 0 ∨ ((arrOf s q).length : Int) ≤ i then .error (3, s.out) else .ok ((), { s with hp := s.hp.modify (q.getD 0) (fun l => l.set i.toNat n) })
def own1 (o : Own) (nm : By) : Vl := (o.lookup nm).getD (0, none)
def tr01 (b : Bool) : Int := if b then 1 else 0
def bothG (op : By) (a b : Int) : Go1 Int :=
 if op = [43] then gp (wrap64 (a + b))
 else if op = [45] then gp (wrap64 (a - b))
 else if op = [42] then gp (wrap64 (a * b))
 else if op = [47] then (if b = 0 then gt 2 else gp (wrap64 (a.tdiv b)))
 else if op = [37] then (if b = 0 then gt 2 else gp (a.tmod b))
 else gp (tr01 (if op = [61, 61] then decide (a = b) else if op = [33, 61] then decide (a ≠ b) else if op = [60] then decide (a < b) else if op = [60, 61] then decide (a ≤ b) else if op = [62] then decide (a > b) else decide (a ≥ b)))
structure Ev where
 E : Nat → Own → Tr → Go1 Vl
 A : Nat → Own → Tr → Go1 (List Vl)
 B : Nat → Own → Tr → Go1 (Option Int × Own)
 S : Nat → Own → Tr → Go1 (Option Int × Own)
 W : Nat → Own → Tr → Tr → Go1 (Option Int × Own)
def evN (fs : By → Option Fun) : Nat → Ev
 | 0 => ⟨fun _ _ _ => gt 99, fun _ _ _ => gt 99, fun _ _ _ => gt 99, fun _ _ _ => gt 99, fun _ _ _ _ => gt 99⟩
 | g + 1 => {
   E := fun d o t => match t with
   | .agg [.lit (.int _ c), .lit (.int _ a), .lit (.int _ n), .lit (.string nm), .lit (.string op), l, r, xs] =>
    if c = 2 then gp (own1 o nm)
    else if c = 3 then
     (if op = [38, 38] then gb ((evN fs g).E d o l) fun x => if x.1 = 0 then gp (0, none) else gb ((evN fs g).E d o r) fun y => gp (tr01 (decide (y.1 ≠ 0)), none)
      else if op = [124, 124] then gb ((evN fs g).E d o l) fun x => if x.1 ≠ 0 then gp (1, none) else gb ((evN fs g).E d o r) fun y => gp (tr01 (decide (y.1 ≠ 0)), none)
      else gb ((evN fs g).E d o l) fun x => gb ((evN fs g).E d o r) fun y => gb (bothG op x.1 y.1) fun z => gp (z, none))
    else if c = 4 then gb ((evN fs g).E d o l) fun x => gp (if op = [45] then wrap64 (-x.1) else tr01 (decide (x.1 = 0)), none)
    else if c = 5 then
     (match fs nm with
      | none => gt 98
      | some F => gb ((evN fs g).A d o xs) fun vs => if 40 ≤ d then gt 5 else gb ((evN fs g).B (d + 1) ((F.ps.map (·.1)).zip vs).reverse F.body) fun r => gp (r.1.getD 0, none))
    else if c = 6 then gb ((evN fs g).E d o l) fun x => newG x.1
    else if c = 7 then gb ((evN fs g).E d o l) fun x => gb (lenG x.2) fun n => gp (n, none)
    else if c = 8 then gb ((evN fs g).E d o l) fun x => gb ((evN fs g).E d o r) fun y => gb (itemG x.2 y.1) fun n => gp (n, none)
    else if c = 9 then gb takeG fun n => gp (n, none)
    else gp (n, none)
   | _ => gt 97
   A := fun d o t => match t with
   | .slice [x] [xs] => gb ((evN fs g).E d o x) fun v => gb ((evN fs g).A d o xs) fun vs => gp (v :: vs)
   | _ => gp []
   B := fun d o t => match t with
   | .slice [x] [xs] => gb pay fun _ => gb ((evN fs g).S d o x) fun r => if r.1.isSome then gp r else (evN fs g).B d r.2 xs
   | _ => gp (none, o)
   S := fun d o t => match t with
   | .agg [.lit (.int _ c), .lit (.int _ a), .lit (.string nm), ix, v, th, el] =>
    if c = 3 then gb ((evN fs g).E d o ix) fun i => gb ((evN fs g).E d o v) fun n => gb (putG (own1 o nm).2 i.1 n.1) fun _ => gp (none, o)
    else if c = 4 then gb ((evN fs g).E d o v) fun x => if x.1 ≠ 0 then (evN fs g).B d o th else (evN fs g).B d o el
    else if c = 5 then (evN fs g).W d o v th
    else if c = 6 then gb ((evN fs g).E d o v) fun x => gp (some x.1, o)
    else if c = 7 then gb ((evN fs g).E d o v) fun x => gb (tellG x.1) fun _ => gp (none, o)
    else if c = 8 then gb ((evN fs g).E d o v) fun _ => gp (none, o)
    else gb ((evN fs g).E d o v) fun x => gp (none, (nm, x) :: o)
   | _ => gt 97
   W := fun d o v th => gb ((evN fs g).E d o v) fun x => if x.1 = 0 then gp (none, o) else gb ((evN fs g).B d o th) fun r => if r.1.isSome then gp r else gb pay fun _ => (evN fs g).W d r.2 v th
  }
def evE (fs : By → Option Fun) (g : Nat) : Nat → Own → Tr → Go1 Vl := (evN fs g).E
def evA (fs : By → Option Fun) (g : Nat) : Nat → Own → Tr → Go1 (List Vl) := (evN fs g).A
def evB (fs : By → Option Fun) (g : Nat) : Nat → Own → Tr → Go1 (Option Int × Own) := (evN fs g).B
def evS (fs : By → Option Fun) (g : Nat) : Nat → Own → Tr → Go1 (Option Int × Own) := (evN fs g).S
def evW (fs : By → Option Fun) (g : Nat) : Nat → Own → Tr → Tr → Go1 (Option Int × Own) := (evN fs g).W
theorem evE_0 (fs : By → Option Fun) (d : Nat) (o : Own) (t : Tr) : evE fs 0 d o t = gt 99 := rfl
theorem qN (fs : By → Option Fun) (g : Nat) (d : Nat) (o : Own) (t : Tr) : evE fs (g + 1) d o t = (match t with
  | .agg [.lit (.int _ c), .lit (.int _ a), .lit (.int _ n), .lit (.string nm), .lit (.string op), l, r, xs] =>
   if c = 2 then gp (own1 o nm)
   else if c = 3 then
    (if op = [38, 38] then gb (evE fs g d o l) fun x => if x.1 = 0 then gp (0, none) else gb (evE fs g d o r) fun y => gp (tr01 (decide (y.1 ≠ 0)), none)
     else if op = [124, 124] then gb (evE fs g d o l) fun x => if x.1 ≠ 0 then gp (1, none) else gb (evE fs g d o r) fun y => gp (tr01 (decide (y.1 ≠ 0)), none)
     else gb (evE fs g d o l) fun x => gb (evE fs g d o r) fun y => gb (bothG op x.1 y.1) fun z => gp (z, none))
   else if c = 4 then gb (evE fs g d o l) fun x => gp (if op = [45] then wrap64 (-x.1) else tr01 (decide (x.1 = 0)), none)
   else if c = 5 then
    (match fs nm with
     | none => gt 98
     | some F => gb (evA fs g d o xs) fun vs => if 40 ≤ d then gt 5 else gb (evB fs g (d + 1) ((F.ps.map (·.1)).zip vs).reverse F.body) fun r => gp (r.1.getD 0, none))
   else if c = 6 then gb (evE fs g d o l) fun x => newG x.1
   else if c = 7 then gb (evE fs g d o l) fun x => gb (lenG x.2) fun n => gp (n, none)
   else if c = 8 then gb (evE fs g d o l) fun x => gb (evE fs g d o r) fun y => gb (itemG x.2 y.1) fun n => gp (n, none)
   else if c = 9 then gb takeG fun n => gp (n, none)
   else gp (n, none)
  | _ => gt 97) := rfl
theorem evA_0 (fs : By → Option Fun) (d : Nat) (o : Own) (t : Tr) : evA fs 0 d o t = gt 99 := rfl
theorem evA_1 (fs : By → Option Fun) (g : Nat) (d : Nat) (o : Own) (t : Tr) : evA fs (g + 1) d o t = (match t with
  | .slice [x] [xs] => gb (evE fs g d o x) fun v => gb (evA fs g d o xs) fun vs => gp (v :: vs)
  | _ => gp []) := rfl
theorem evB_0 (fs : By → Option Fun) (d : Nat) (o : Own) (t : Tr) : evB fs 0 d o t = gt 99 := rfl
theorem evB_1 (fs : By → Option Fun) (g : Nat) (d : Nat) (o : Own) (t : Tr) : evB fs (g + 1) d o t = (match t with
  | .slice [x] [xs] => gb pay fun _ => gb (evS fs g d o x) fun r => if r.1.isSome then gp r else evB fs g d r.2 xs
  | _ => gp (none, o)) := rfl
theorem evS_0 (fs : By → Option Fun) (d : Nat) (o : Own) (t : Tr) : evS fs 0 d o t = gt 99 := rfl
theorem evS_1 (fs : By → Option Fun) (g : Nat) (d : Nat) (o : Own) (t : Tr) : evS fs (g + 1) d o t = (match t with
  | .agg [.lit (.int _ c), .lit (.int _ a), .lit (.string nm), ix, v, th, el] =>
   if c = 3 then gb (evE fs g d o ix) fun i => gb (evE fs g d o v) fun n => gb (putG (own1 o nm).2 i.1 n.1) fun _ => gp (none, o)
   else if c = 4 then gb (evE fs g d o v) fun x => if x.1 ≠ 0 then evB fs g d o th else evB fs g d o el
   else if c = 5 then evW fs g d o v th
   else if c = 6 then gb (evE fs g d o v) fun x => gp (some x.1, o)
   else if c = 7 then gb (evE fs g d o v) fun x => gb (tellG x.1) fun _ => gp (none, o)
   else if c = 8 then gb (evE fs g d o v) fun _ => gp (none, o)
   else gb (evE fs g d o v) fun x => gp (none, (nm, x) :: o)
  | _ => gt 97) := rfl
theorem evW_0 (fs : By → Option Fun) (d : Nat) (o : Own) (v t : Tr) : evW fs 0 d o v t = gt 99 := rfl
theorem evW_1 (fs : By → Option Fun) (g : Nat) (d : Nat) (o : Own) (v th : Tr) : evW fs (g + 1) d o v th = (gb (evE fs g d o v) fun x => if x.1 = 0 then gp (none, o) else gb (evB fs g d o th) fun r => if r.1.isSome then gp r else gb pay fun _ => evW fs g d r.2 v th) := rfl
def rnV (g : Nat) (L : List Fun) (inp : List Int) (fuel : Nat) : Int × Int × List Int :=
 match evE (fun nm => L.find? (fun F => F.nm == nm)) g 0 [] (nd 5 0 0 [109, 97, 105, 110] [] .nil .nil ce) ⟨fuel, inp, [], []⟩ with
 | .error (w, out) => (w, 0, out)
 | .ok (v, s) => (1, v.1, s.out)
def Fm {α : Type} (x : Go1 α) : Prop := ∀ (s : Sg) (k : Nat),
 (∃ a s1, x s = .ok (a, s1) ∧ x (s.plus k) = .ok (a, s1.plus k) ∧ s.out <+: s1.out) ∨
 (∃ w o, x s = .error (w, o) ∧ s.out <+: o ∧ ((w ≠ 6 ∧ x (s.plus k) = .error (w, o)) ∨ (w = 6 ∧ ((∃ a s2, x (s.plus k) = .ok (a, s2) ∧ o <+: s2.out) ∨ (∃ w2 o2, x (s.plus k) = .error (w2, o2) ∧ o <+: o2)))))
abbrev endE (k : Int) : Ending := .panicked [{ v := .iface 61 (.int .i64 k), recovered := false }]
abbrev toldE (n : Int) : Ending := .panicked [{ v := .iface 129 (.int .i64 n), recovered := false }]
abbrev vlA (n : Int) (q : Value) : Value := .agg #[.int .i64 n, q]
theorem qh (k : Int) (w : World) : Calls Tryz.prog 54 #[.int .i64 k] w fun e w' => e = endE k ∧ w' = w := by
 go_enter Tryz.func54, Tryz.ntmps54
 go_wp2
 exact ⟨rfl, rfl, rfl⟩
theorem truth_any (b : Bool) (w : World) : Calls Tryz.prog 223 #[.bool b] w fun e w' => e = .returned (.int .i64 (if b then 1 else 0)) ∧ w' = w := by
 cases b <;> (go_enter Tryz.func223, Tryz.ntmps223; go_wp2; go_ret; exact ⟨rfl, rfl⟩)
theorem qd (n : Int) (w : World) : Calls Tryz.prog 196 #[.int .i64 n] w fun e w' => e = .returned (vlA n (.slice none 0 0)) ∧ Below w.heap.size w w' := by
 go_enter Tryz.func196, Tryz.ntmps196
 go_wp2
 exact bodyPost_ret (v := vlA n (.slice none 0 0)) (by simp [results, Tryz.results196, go_sem]) rfl ⟨rfl, (Below.refl _ _).alloc (Nat.le_refl _) _⟩
theorem divisor_any (n : Int) (w : World) : Calls Tryz.prog 243 #[.int .i64 n] w fun e w' => ((n = 0 ∧ e = endE 2) ∨ (n ≠ 0 ∧ e = .returned (.int .i64 n))) ∧ w' = w := by
 by_cases h : n = 0
 ·subst h
  go_enter Tryz.func243, Tryz.ntmps243
  go_wp2_with (go_at_call 54; refine (qh _ _).mono ?_; rintro e w' ⟨rfl, rfl⟩)
  exact ⟨rfl, .inl ⟨trivial, rfl⟩, rfl⟩
 ·go_enter Tryz.func243, Tryz.ntmps243
  go_wp2
  go_ret
  exact ⟨.inr ⟨h, rfl⟩, rfl⟩
theorem tl_eq (y : ByteArray) : y.data.toList = y.toList := (ByteArray.toList_eq y).symm
def holdB (op : By) (a b : Int) : Bool := if op = [61, 61] then decide (a = b) else if op = [33, 61] then decide (a ≠ b) else if op = [60] then decide (a < b) else if op = [60, 61] then decide (a ≤ b) else if op = [62] then decide (a > b) else decide (a ≥ b)
theorem ret_bool {a b : Bool} (h : a = b) : Ending.returned (.bool a) = .returned (.bool b) := by rw [h]
theorem holds_any (y : ByteArray) (a b : Int) (w : World) : Calls Tryz.prog 244 #[.string y, .int .i64 a, .int .i64 b] w fun e w' => e = .returned (.bool (holdB y.data.toList a b)) ∧ w' = w := by
 rw [tl_eq]
 go_enter Tryz.func244, Tryz.ntmps244
 go_wp2
 all_goals (go_ret; refine ⟨ret_bool ?_, rfl⟩; unfold holdB; simp_all [Bool.beq_eq_decide_eq, bne])
def bothV (op : By) (a b : Int) : Option Int :=
 if op = [43] then some (wrap64 (a + b))
 else if op = [45] then some (wrap64 (a - b))
 else if op = [42] then some (wrap64 (a * b))
 else if op = [47] then (if b = 0 then none else some (wrap64 (a.tdiv b)))
 else if op = [37] then (if b = 0 then none else some (a.tmod b))
 else some (if holdB op a b then 1 else 0)
def BothP (op : By) (a b : Int) (w : World) (e : Ending) (w' : World) : Prop := ((∃ n, bothV op a b = some n ∧ e = .returned (.int .i64 n)) ∨ (bothV op a b = none ∧ e = endE 2)) ∧ w' = w
theorem both_any (y : ByteArray) (a b : Int) (w : World) : Calls Tryz.prog 226 #[.string y, .int .i64 a, .int .i64 b] w (BothP y.data.toList a b w) := by
 rw [tl_eq]
 obtain ⟨G, hG⟩ : ∃ G, G = BothP y.toList a b w := ⟨_, rfl⟩
 have HG : Hid (G = BothP y.toList a b w) := hG
 have HH : Hid (∀ w, Calls Tryz.prog 244 #[.string y, .int .i64 a, .int .i64 b] w fun e w' => e = .returned (.bool (holdB y.toList a b)) ∧ w' = w) := fun w => by have := holds_any y a b w; rw [tl_eq] at this; exact this
 rw [← hG]
 clear hG
 go_enter Tryz.func226, Tryz.ntmps226
 go_wp2_with (first
  |(go_at_call 243; refine (divisor_any _ _).mono ?_; rintro e w' ⟨⟨hz, rfl⟩ | ⟨hz, rfl⟩, rfl⟩)
  |(go_at_call 244; refine (HH.out _).mono ?_; rintro e w' ⟨rfl, rfl⟩)
  |(go_at_call 223; refine (truth_any _ _).mono ?_; rintro e w' ⟨rfl, rfl⟩))
 all_goals first
  |(refine ⟨rfl, ?_⟩; rw [HG.out]; refine ⟨.inr ⟨?_, rfl⟩, rfl⟩; unfold bothV; simp_all; done)
  |(rw [HG.out]; refine ⟨.inl ⟨_, ?_, rfl⟩, rfl⟩; unfold bothV; simp_all; done)
  | trace_state
 all_goals omega
def Rv (v : Value) : Option (DataW Value × List MemPlace) := some (.held v, [])
def MapV (w : World) (b n : Nat) (f : By → Option Value) : Prop := ∃ D, w.ownsMap Tryz.prog 9 Rv b n D ∧ ∀ nm z, D.atKey (.string nm) (.held z) = .held ((f nm).getD z)
theorem MapV.obj {w : World} {b n : Nat} {f : By → Option Value} (h : MapV w b n f) : ∃ es clock, w.heap[b]? = some (.map es clock) := by
 obtain ⟨D, ⟨es, clock, h1, _⟩, _⟩ := h
 exact ⟨es, clock, h1⟩
theorem MapV.kept {w w' : World} {b n : Nat} {f : By → Option Value} (h : MapV w b n f) (hk : w'.heap[b]? = w.heap[b]?) : MapV w' b n f := by
 obtain ⟨D, ⟨es, clock, h1, h2⟩, h3⟩ := h
 exact ⟨D, ⟨es, clock, by rw [hk]; exact h1, h2⟩, h3⟩
theorem MapV.lt {w : World} {b n : Nat} {f : By → Option Value} (h : MapV w b n f) : b < w.heap.size := by
 obtain ⟨es, clock, h1⟩ := h.obj
 exact (Array.getElem?_eq_some_iff.1 h1).1
theorem MapV.made (w : World) : MapV (w.alloc (.map #[] 0)) w.heap.size 0 (fun _ => none) :=
 ⟨_, World.ownsMap_made w Tryz.prog 9 Rv, fun nm z => rfl⟩
theorem map_keyOf (x : ByteArray) (hx : x.size ≤ 1000000) : keyOf Tryz.prog 9 (.string x) = some (.string x.data.toList) := Go.WideMaps.keyOf_string_mk Tryz.underlying9 (by unfold maxLen; omega)
theorem MapV.look {w : World} {b n : Nat} {f : By → Option Value} {t e : TypeId} (h : MapV w b n f) (ht : Tryz.prog.underlying t = some (.map 9 e)) {z : Value} (hz : (zeroValue e).run Tryz.prog w = .ok z w) (x : ByteArray) (hx : x.size ≤ 1000000) :
  (Instr.lookup t (.map (some b)) (.string x) false).run Tryz.prog w = .ok ((f x.data.toList).getD z) w := by
 obtain ⟨D, h1, h3⟩ := h
 obtain ⟨v, ps, hrun, hR⟩ := World.ownsMap.lookup h1 (Maps.string_keyed Tryz.underlying9) ht hz (show Rv z = some (.held z, []) from rfl) (map_keyOf x hx)
 rw [h3] at hR
 unfold Rv at hR
 simp only [Option.some.injEq, Prod.mk.injEq, DataW.held.injEq] at hR
 rw [hrun, hR.1]
theorem map_key_ne {a b : By} (h : a ≠ b) : (Lit.string a) ≠ .string b := fun e => h (by injection e)
theorem MapV.put {w : World} {b n : Nat} {f : By → Option Value} {t e : TypeId} (h : MapV w b n f) (ht : Tryz.prog.underlying t = some (.map 9 e)) (hn : n < 100000000) (x : ByteArray) (hx : x.size ≤ 1000000) (v : Value) :
  ∃ w', (Instr.mapUpdate t (.map (some b)) (.string x) v).run Tryz.prog w = .ok () w' ∧ MapV w' b (n + 1) (fun y => if y = x.data.toList then some v else f y) ∧ w.grownBy w' (some b) := by
 obtain ⟨D, h1, h3⟩ := h
 obtain ⟨w', hrun, ho, hg⟩ := World.ownsMap.update h1 (Maps.string_keyed Tryz.underlying9) ht (by unfold maxLen; omega) (map_keyOf x hx) (show Rv v = some (.held v, []) from rfl)
 refine ⟨w', hrun, ⟨_, ho, fun nm z => ?_⟩, hg⟩
 by_cases e : nm = x.data.toList
 ·subst e
  rw [Maps.atKey_put_same h1.isMap (by trivial)]
  simp
 ·rw [Maps.atKey_put_other (map_key_ne e), h3]
  simp [e]
end Go.Proofs.YtnfhpdbbfejioaaGreatDoor
