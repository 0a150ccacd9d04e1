/- FZ -/
import Derived.Test.YtjmbjpimabnohaaDoorK24
namespace Go.Proofs.YtjmbjpimabnohaaDoor.Mid
set_option linter.unusedVariables false
set_option linter.unusedSimpArgs false
open Go Go.RowKit
def up (env : Int → Int) (p n : Int) : Int → Int := fun x => if x = p then n else env x
structure Ink (S : Fs) (env : Int → Int) (d : Int) (mx : Nat) : Prop where
  hold : ∀ p v, S.hold p = some v → 1 ≤ v ∧ v ≤ (S.cnt : Int) ∧ S.num v = some (env p) ∧ 0 ≤ p ∧ p < d
  home : ∀ v p, S.home v = some p → S.hold p = some v
  val : ∀ n v, S.val n = some v → 1 ≤ v ∧ v ≤ (S.cnt : Int) ∧ S.num v = some n
  num : ∀ x, (S.cnt : Int) < x → S.num x = none
  un : ∀ p, S.hold p = none → env p = 0
  c : S.cnt ≤ mx
  h : S.nh ≤ mx
  m : S.nm ≤ mx
  n : S.nn ≤ mx
  v : S.nv ≤ mx
theorem Ink.rm {S : Fs} {env : Int → Int} {d : Int} {m : Nat} (h : Ink S env d m) (hm : m < 50000) : Rm S := ⟨by have := h.c; omega, by have := h.h; omega, by have := h.m; omega, by have := h.n; omega, by have := h.v; omega, h.num⟩
theorem Ink.mono {S : Fs} {env : Int → Int} {d d' : Int} {m m' : Nat} (h : Ink S env d m) (hd : d ≤ d') (hm : m ≤ m') : Ink S env d' m' :=
  ⟨fun p v hp => by obtain ⟨a, b, c, e, f⟩ := h.hold p v hp; exact ⟨a, b, c, e, by omega⟩, h.home, h.val, h.num, h.un, Nat.le_trans h.c hm, Nat.le_trans h.h hm, Nat.le_trans h.m hm, Nat.le_trans h.n hm, Nat.le_trans h.v hm⟩
theorem nu_in {S S1 : Fs} {env : Int → Int} {d : Int} {m : Nat} {n v : Int} (h : Ink S env d m) (hr : NuR S n v S1) :
    Ink S1 env d (m + 1) ∧ 1 ≤ v ∧ v ≤ (S1.cnt : Int) ∧ S1.num v = some n ∧ S1.hold = S.hold ∧ S1.home = S.home := by
  rcases hr with ⟨h1, rfl⟩ | ⟨h1, rfl, rfl⟩
  · obtain ⟨a, b, c⟩ := h.val n v h1
    exact ⟨h.mono (Int.le_refl _) (by omega), a, b, c, rfl, rfl⟩
  · have hc := h.c
    have hne : ∀ x, x ≤ (S.cnt : Int) → (S.newN n).num x = S.num x := fun x hx => by show (if x = _ then _ else _) = _; rw [if_neg (by omega)]
    have hcn : ((S.newN n).cnt : Int) = (S.cnt : Int) + 1 := by show ((S.cnt + 1 : Nat) : Int) = _; omega
    refine ⟨⟨fun p v hp => ?_, h.home, fun x v hx => ?_, fun x hx => ?_, h.un, ?_, ?_, ?_, ?_, ?_⟩, by omega, by omega, by show (if _ = _ then _ else _) = _; rw [if_pos rfl], rfl, rfl⟩
    · obtain ⟨a, b, c, e⟩ := h.hold p v hp
      exact ⟨a, by omega, by rw [hne v b]; exact c, e⟩
    · have hx' : (if x = n then some ((S.cnt : Int) + 1) else S.val x) = some v := hx
      split at hx'
      · injection hx' with hx'
        rename_i e
        refine ⟨by omega, by omega, ?_⟩
        show (if v = _ then _ else _) = _
        rw [if_pos hx'.symm, e]
      · obtain ⟨a, b, c⟩ := h.val x v hx'
        exact ⟨a, by omega, by rw [hne v b]; exact c⟩
    · show (if x = _ then _ else _) = _
      rw [if_neg (by omega)]
      exact h.num x (by omega)
    · show S.cnt + 1 ≤ _; omega
    · have := h.h; show S.nh ≤ _; omega
    · have := h.m; show S.nm ≤ _; omega
    · have := h.n; show S.nn + 1 ≤ _; omega
    · have := h.v; show S.nv + 1 ≤ _; omega
theorem va_in {S S1 : Fs} {env : Int → Int} {d d' : Int} {m : Nat} {p v : Int} (h : Ink S env d m) (hr : VaR S p v S1) (h0 : 0 ≤ p) (hp : p < d') (hd : d ≤ d') :
    Ink S1 env d' (m + 1) ∧ 1 ≤ v ∧ v ≤ (S1.cnt : Int) ∧ S1.num v = some (env p) ∧ S1.hold p = some v ∧ S1.home = S.home ∧ (∀ q x, S.hold q = some x → S1.hold q = some x) := by
  rcases hr with ⟨h1, rfl⟩ | ⟨h1, S0, h2, rfl⟩
  · obtain ⟨a, b, c, _⟩ := h.hold p v h1
    exact ⟨h.mono hd (by omega), a, b, c, h1, rfl, fun q x hq => hq⟩
  · obtain ⟨i0, a, b, c, e1, e2⟩ := nu_in h h2
    have henv := h.un p h1
    have h1' : S0.hold p = none := by rw [e1]; exact h1
    refine ⟨⟨fun q x hq => ?_, fun x q hq => ?_, i0.val, i0.num, fun q hq => ?_, i0.c, ?_, i0.m, i0.n, i0.v⟩, a, b, by rw [henv]; exact c, by show (if _ = _ then _ else _) = _; rw [if_pos rfl], e2, fun q x hq => ?_⟩
    · have hq' : (if q = p then some v else S0.hold q) = some x := hq
      split at hq'
      · rename_i e
        injection hq' with hq'
        subst hq'
        subst e
        exact ⟨a, b, by rw [henv]; exact c, h0, hp⟩
      · obtain ⟨a, b, c, e, f⟩ := i0.hold q x hq'
        exact ⟨a, b, c, e, by omega⟩
    · have h9 := i0.home x q hq
      show (if q = p then some v else S0.hold q) = some x
      rw [if_neg (fun e => by rw [e, h1'] at h9; cases h9)]
      exact h9
    · have hq' : (if q = p then some v else S0.hold q) = none := hq
      split at hq'
      · cases hq'
      · exact i0.un q hq'
    · show (if (S0.hold p).isSome then S0.nh else S0.nh + 1) ≤ _
      rw [h1']
      have h7 := h.h
      have h8 := nu_nh h2
      show S0.nh + 1 ≤ _
      omega
    · show (if q = p then some v else S0.hold q) = some x
      rw [if_neg (fun e => by rw [e, h1] at hq; cases hq), e1]
      exact hq
theorem ho_in {S S1 : Fs} {env : Int → Int} {d d' : Int} {m : Nat} {p r : Int} (h : Ink S env d m) (hr : HoR S p r S1) (h0 : 0 ≤ p) (hp : p < d') (hd : d ≤ d') :
    Ink S1 env d' (m + 1) ∧ env r = env p ∧ 0 ≤ r ∧ r < d' ∧ (∃ v, S1.hold r = some v ∧ 1 ≤ v ∧ v ≤ (S1.cnt : Int) ∧ S1.num v = some (env p)) ∧ (∀ q x, S.hold q = some x → S1.hold q = some x) := by
  obtain ⟨v, S0, h1, h2⟩ := hr
  obtain ⟨i0, a, b, c, e1, e2, e3⟩ := va_in h h1 h0 hp hd
  rcases h2 with ⟨h2, rfl⟩ | ⟨h2, rfl, rfl⟩
  · have h9 := i0.home v r h2
    obtain ⟨_, _, f1, f2, f3⟩ := i0.hold r v h9
    refine ⟨i0, ?_, f2, f3, ⟨v, h9, a, b, c⟩, e3⟩
    rw [c] at f1
    injection f1 with f1
    exact f1.symm
  · refine ⟨⟨i0.hold, fun x q hq => ?_, i0.val, i0.num, i0.un, i0.c, i0.h, ?_, i0.n, i0.v⟩, rfl, h0, hp, ⟨v, e1, a, b, c⟩, e3⟩
    · have hq' : (if x = v then some r else S0.home x) = some q := hq
      split at hq'
      · rename_i e
        injection hq' with hq'
        subst hq'
        subst e
        exact e1
      · exact i0.home x q hq'
    · show (if (S0.home v).isSome then S0.nm else S0.nm + 1) ≤ _
      rw [h2]
      have h7 := h.m
      have h8 := va_nm h1
      show S0.nm + 1 ≤ _
      omega
theorem wr_in {S : Fs} {env : Int → Int} {d : Int} {m : Nat} {p old v n : Int} (h : Ink S env d m) (ho : S.hold p = some old) (hv : 1 ≤ v ∧ v ≤ (S.cnt : Int)) (hn : S.num v = some n) (hne : ∀ x, S.home x ≠ some p) :
    Ink (S.wrote p v) (up env p n) d (m + 1) := by
  obtain ⟨_, _, _, h0, hd⟩ := h.hold p old ho
  have e1 : (S.wrote p v).hold = fun x => if x = p then some v else S.hold x := by unfold Fs.wrote; split <;> rfl
  have e2 : (S.wrote p v).num = S.num := by unfold Fs.wrote; split <;> rfl
  have e3 : (S.wrote p v).val = S.val := by unfold Fs.wrote; split <;> rfl
  have e4 : (S.wrote p v).cnt = S.cnt := by unfold Fs.wrote; split <;> rfl
  have e5 : (S.wrote p v).nn = S.nn := by unfold Fs.wrote; split <;> rfl
  have e6 : (S.wrote p v).nv = S.nv := by unfold Fs.wrote; split <;> rfl
  have e7 : (S.wrote p v).nh = S.nh := by unfold Fs.wrote; split <;> (show (if (S.hold p).isSome then S.nh else S.nh + 1) = S.nh; rw [ho]; rfl)
  have e8 : (S.wrote p v).nm ≤ S.nm + 1 := by
    unfold Fs.wrote
    split
    · exact Nat.le_succ _
    · show (if (S.home v).isSome then S.nm else S.nm + 1) ≤ _
      split <;> omega
  have e9 : ∀ x q, (S.wrote p v).home x = some q → S.home x = some q ∨ (x = v ∧ q = p) := fun x q hq => by
    unfold Fs.wrote at hq
    split at hq
    · exact .inl hq
    · have hq' : (if x = v then some p else S.home x) = some q := hq
      split at hq'
      · rename_i e
        injection hq' with hq'
        exact .inr ⟨e, hq'.symm⟩
      · exact .inl hq'
  refine ⟨fun q x hq => ?_, fun x q hq => ?_, fun x y hx => ?_, fun x hx => ?_, fun q hq => ?_, ?_, ?_, ?_, ?_, ?_⟩
  · rw [e1] at hq
    have hq' : (if q = p then some v else S.hold q) = some x := hq
    rw [e2, e4]
    unfold up
    split at hq'
    · rename_i e
      injection hq' with hq'
      subst hq'
      subst e
      exact ⟨hv.1, hv.2, by rw [if_pos rfl]; exact hn, h0, hd⟩
    · rename_i e
      rw [if_neg e]
      exact h.hold q x hq'
  · rw [e1]
    show (if q = p then some v else S.hold q) = some x
    rcases e9 x q hq with hq | ⟨rfl, rfl⟩
    · rw [if_neg (fun e => hne x (by rw [← e]; exact hq))]
      exact h.home x q hq
    · rw [if_pos rfl]
  · rw [e3] at hx
    rw [e2, e4]
    exact h.val x y hx
  · rw [e2]
    rw [e4] at hx
    exact h.num x hx
  · rw [e1] at hq
    have hq' : (if q = p then some v else S.hold q) = none := hq
    unfold up
    split at hq'
    · cases hq'
    · rename_i e
      rw [if_neg e]
      exact h.un q hq'
  · rw [e4]; have := h.c; omega
  · rw [e7]; have := h.h; omega
  · have := h.m; omega
  · rw [e5]; have := h.n; omega
  · rw [e6]; have := h.v; omega
def evS (env : Int → Int) (s : Ms) : Int := if s.code = 1 then s.n else if s.code = 2 then env s.a else (bothV s.op (env s.a) (env s.b)).1
def envA (l : List Ms) : Nat → Int → Int
  | 0 => fun _ => 0
  | i + 1 => match l[i]? with
    | some s => up (envA l i) s.dst (evS (envA l i) s)
    | none => envA l i
def dA (l : List Ms) : Nat → Int
  | 0 => 0
  | i + 1 => match l[i]? with
    | some s => s.dst + 1
    | none => 0
structure Good (nt : Nat) (z : Int) (l : List Ms) : Prop where
  st : StrL nt l
  asc : ∀ i s, l[i]? = some s → s.code ≠ 8 → dA l i ≤ s.dst
  ra : ∀ s ∈ l, s.code = 2 ∨ s.code = 3 → s.a < s.dst
  rb : ∀ s ∈ l, s.code = 3 → s.b < s.dst
  two : ∀ i s, l[i]? = some s → s.code = 3 → (bothV s.op (envA l i s.a) (envA l i s.b)).2 = 0
  i64 : ∀ i p, I64 (envA l i p)
  ev : ∀ i s, l[i]? = some s → s.code ≠ 8 → I64 (evS (envA l i) s)
  opl : ∀ s ∈ l, s.op.length ≤ 1000000 ∧ s.name = [] ∧ s.args = [] ∧ I64 s.code ∧ I64 s.dst ∧ I64 s.a ∧ I64 s.b ∧ I64 s.c ∧ I64 s.n ∧ I64 s.label
  fin : ∀ s, l[l.length - 1]? = some s → envA l (l.length - 1) s.a = z
def cn (p n : Int) : Ms := ⟨1, p, 0, 0, 0, n, [], 0, [], []⟩
structure Kp (env : Int → Int) (d : Int) (kept : List Ms) : Prop where
  ps : ∃ ps : List Int, kept = ps.map (fun p => cn p (env p)) ∧ ps.Pairwise (· < ·) ∧ (∀ p ∈ ps, 0 ≤ p ∧ p < d) ∧ ∀ p, p ∉ ps → env p = 0
theorem Kp.zero : Kp (fun _ => 0) 0 [] := ⟨[], rfl, List.Pairwise.nil, fun p hp => (by simp at hp), fun p _ => rfl⟩
theorem Kp.put {env : Int → Int} {d p n : Int} {kept : List Ms} (h : Kp env d kept) (h0 : 0 ≤ p) (hd : d ≤ p) : Kp (up env p n) (p + 1) (kept ++ [cn p n]) := by
  obtain ⟨ps, rfl, h2, h3, h4⟩ := h
  refine ⟨ps ++ [p], ?_, ?_, fun q hq => ?_, fun q hq => ?_⟩
  · rw [List.map_append]
    congr 1
    · refine List.map_congr_left fun q hq => ?_
      have := h3 q hq
      unfold up
      rw [if_neg (by omega)]
    · simp [up]
  · rw [List.pairwise_append]
    refine ⟨h2, List.pairwise_singleton _ _, fun q hq r hr => ?_⟩
    have := h3 q hq
    simp at hr
    omega
  · rcases List.mem_append.1 hq with hq | hq
    · have := h3 q hq; omega
    · simp at hq; omega
  · simp only [List.mem_append, List.mem_singleton, not_or] at hq
    unfold up
    rw [if_neg hq.2]
    exact h4 q hq.1
theorem Kp.skip {env : Int → Int} {d p n : Int} {kept : List Ms} (h : Kp env d kept) (hd : d ≤ p) (hn : env p = n) : Kp (up env p n) (p + 1) kept := by
  have : up env p n = env := by
    funext q
    unfold up
    split
    · rename_i e; rw [e, hn]
    · rfl
  rw [this]
  obtain ⟨ps, rfl, h2, h3, h4⟩ := h
  exact ⟨ps, rfl, h2, fun q hq => by have := h3 q hq; omega, h4⟩
end Go.Proofs.YtjmbjpimabnohaaDoor.Mid
