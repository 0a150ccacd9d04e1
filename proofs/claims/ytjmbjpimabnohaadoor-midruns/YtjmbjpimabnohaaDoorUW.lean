/- Plain: arrays and fuel together grow nowhere: each array is paid for. Plain: every number on the way is one of 64 bits. Plain: a round of steps, by what a step does. -/
import Derived.Test.YtjmbjpimabnohaaDoorNJ
import Derived.Test.YtjmbjpimabnohaaDoorUE
namespace Go.Proofs.YtjmbjpimabnohaaDoor.Mid
set_option linter.unusedVariables false
set_option linter.unusedSimpArgs false
open Go Go.RowKit

def hfS (s : Sg) : Int := (s.hp.length : Int) + s.fuel
def Hm {α : Type} (c : Int) (x : Go1 α) : Prop := ∀ s a s1, x s = .ok (a, s1) → hfS s1 ≤ hfS s + c
theorem hm_le {α : Type} {c e : Int} {x : Go1 α} (h : Hm c x) (hc : c ≤ e) : Hm e x := fun s a s1 hx => by have := h s a s1 hx; omega
theorem hm_gp {α : Type} (a : α) : Hm 0 (gp a) := fun s b s1 h => by injection h with h; injection h with _ h; subst h; omega
theorem hm_gt {α : Type} (c k : Int) : Hm c (gt k : Go1 α) := fun s b s1 h => by cases h
theorem hm_gb {α β : Type} {c e : Int} {x : Go1 α} {f : α → Go1 β} (hx : Hm c x) (hf : ∀ a, Hm e (f a)) : Hm (c + e) (gb x f) := fun s b s1 h => by
  unfold gb at h
  cases e : x s with
  | error k => rw [e] at h; cases h
  | ok p =>
    obtain ⟨a, s2⟩ := p
    rw [e] at h
    have h1 := hx s a s2 e
    have h2 := hf a s2 b s1 h
    omega
theorem hm_pay : Hm (-1) pay := fun s a s1 h => by
  unfold pay at h
  split at h
  · cases h
  · injection h with h; injection h with _ h; subst h; show (s.hp.length : Int) + (s.fuel - 1) ≤ (s.hp.length : Int) + s.fuel + -1; omega
theorem hm_tell (n : Int) : Hm 0 (tellG n) := fun s a s1 h => by
  unfold tellG at h
  split at h
  · cases h
  · injection h with h; injection h with _ h; subst h; show (s.hp.length : Int) + s.fuel ≤ (s.hp.length : Int) + s.fuel + 0; omega
theorem hm_take : Hm 0 takeG := fun s a s1 h => by injection h with h; injection h with _ h; subst h; show (s.hp.length : Int) + s.fuel ≤ (s.hp.length : Int) + s.fuel + 0; omega
theorem hm_new (n : Int) : Hm 1 (newG n) := fun s a s1 h => by
  unfold newG at h
  split at h
  · cases h
  · injection h with h; injection h with _ h; subst h
    show ((s.hp ++ _).length : Int) + s.fuel ≤ (s.hp.length : Int) + s.fuel + 1
    simp only [List.length_append, List.length_cons, List.length_nil]
    omega
theorem hm_len (q : Option Nat) : Hm 0 (lenG q) := fun s a s1 h => by injection h with h; injection h with _ h; subst h; omega
theorem hm_item (q : Option Nat) (i : Int) : Hm 0 (itemG q i) := fun s a s1 h => by
  unfold itemG at h
  split at h
  · cases h
  · injection h with h; injection h with _ h; subst h; omega
theorem hm_put (q : Option Nat) (i n : Int) : Hm 0 (putG q i n) := fun s a s1 h => by
  unfold putG at h
  split at h
  · cases h
  · injection h with h; injection h with _ h; subst h
    show ((s.hp.modify _ _).length : Int) + s.fuel ≤ (s.hp.length : Int) + s.fuel + 0
    rw [List.length_modify]
    omega
theorem hm_both (op : By) (a b : Int) : Hm 0 (bothG op a b) := by
  unfold bothG
  split
  · exact hm_gt _ _
  · exact hm_gp _
theorem hm_gb0 {α β : Type} {e : Int} {x : Go1 α} {f : α → Go1 β} (hx : Hm 0 x) (hf : ∀ a, Hm e (f a)) : Hm e (gb x f) := hm_le (hm_gb hx hf) (by omega)
theorem hm_reck {fs : By → Option Mf} {g : Nat} (ih : ∀ d F k o, Hm 0 (goN fs g d F k o)) (d : Nat) (s : Ms) (o : List Vl) : Hm 1 (reckG fs g d s o) := by
  unfold reckG
  split
  · exact hm_le (hm_gp _) (by omega)
  split
  · exact hm_le (hm_gb0 (hm_both _ _ _) (fun _ => hm_gp _)) (by omega)
  split
  · split
    · exact hm_gt _ _
    · split
      · exact hm_gt _ _
      · exact hm_le (hm_gb0 (ih _ _ _ _) (fun _ => hm_gp _)) (by omega)
  split
  · exact hm_new _
  split
  · exact hm_le (hm_gb0 (hm_len _) (fun _ => hm_gp _)) (by omega)
  split
  · exact hm_le (hm_gb0 (hm_item _ _) (fun _ => hm_gp _)) (by omega)
  split
  · exact hm_le (hm_gb0 hm_take (fun _ => hm_gp _)) (by omega)
  · exact hm_le (hm_gp _) (by omega)
theorem hm_go (fs : By → Option Mf) : ∀ g d F k o, Hm 0 (goN fs g d F k o)
  | 0 => fun d F k o => hm_gt _ _
  | g + 1 => fun d F k o => by
    have ih := hm_go fs g
    rw [goN_1]
    refine hm_le (e := 0) (hm_gb (e := 1) hm_pay (fun _ => ?_)) (by omega)
    have i1 : ∀ d F k o, Hm 1 (goN fs g d F k o) := fun d F k o => hm_le (ih d F k o) (by omega)
    split
    · exact hm_gt _ _
    split
    · exact hm_le (hm_gp _) (by omega)
    split
    · exact i1 _ _ _ _
    split
    · split
      · exact i1 _ _ _ _
      · exact i1 _ _ _ _
    split
    · exact hm_gb0 (hm_tell _) (fun _ => i1 _ _ _ _)
    split
    · exact hm_gb0 (hm_put _ _ _) (fun _ => i1 _ _ _ _)
    split
    · exact i1 _ _ _ _
    · exact hm_le (hm_gb (hm_reck ih _ _ _) (fun _ => ih _ _ _ _)) (by omega)
end Go.Proofs.YtjmbjpimabnohaaDoor.Mid

namespace Go.Proofs.YtjmbjpimabnohaaDoor.Mid
set_option linter.unusedVariables false
set_option linter.unusedSimpArgs false
open Go Go.RowKit

/-- What was made, what is asked for: numbers of 64 bits; no array is long. -/
structure Gi (s : Sg) : Prop where
  hp : ∀ l ∈ s.hp, l.length ≤ 40 ∧ ∀ x ∈ l, I64 x
  inp : ∀ x ∈ s.inp, I64 x
def OI (o : List Vl) : Prop := ∀ v ∈ o, I64 v.1
def FI (F : Mf) : Prop := ∀ s ∈ F.steps, I64 s.n
def Iv {α : Type} (R : α → Prop) (x : Go1 α) : Prop := ∀ s a s1, Gi s → x s = .ok (a, s1) → Gi s1 ∧ R a
theorem iv_gp {α : Type} {R : α → Prop} {a : α} (h : R a) : Iv R (gp a) := fun s b s1 hg e => by injection e with e; injection e with e1 e2; subst e1; subst e2; exact ⟨hg, h⟩
theorem iv_gt {α : Type} {R : α → Prop} (k : Int) : Iv R (gt k : Go1 α) := fun s b s1 hg e => by cases e
theorem iv_gb {α β : Type} {R : α → Prop} {T : β → Prop} {x : Go1 α} {f : α → Go1 β} (hx : Iv R x) (hf : ∀ a, R a → Iv T (f a)) : Iv T (gb x f) := fun s b s1 hg h => by
  unfold gb at h
  cases e : x s with
  | error k => rw [e] at h; cases h
  | ok p =>
    obtain ⟨a, s2⟩ := p
    rw [e] at h
    obtain ⟨h1, h2⟩ := hx s a s2 hg e
    exact hf a h2 s2 b s1 h1 h
theorem iv_pay : Iv (fun _ => True) pay := fun s a s1 hg h => by
  unfold pay at h
  split at h
  · cases h
  · injection h with h; injection h with _ h; subst h; exact ⟨⟨hg.hp, hg.inp⟩, trivial⟩
theorem iv_tell (n : Int) : Iv (fun _ => True) (tellG n) := fun s a s1 hg h => by
  unfold tellG at h
  split at h
  · cases h
  · injection h with h; injection h with _ h; subst h; exact ⟨⟨hg.hp, hg.inp⟩, trivial⟩
theorem iv_take : Iv I64 takeG := fun s a s1 hg h => by
  injection h with h
  injection h with h1 h
  subst h
  subst h1
  refine ⟨⟨hg.hp, fun x hx => hg.inp x (List.mem_of_mem_tail hx)⟩, ?_⟩
  cases e : s.inp with
  | nil => show I64 0; exact ⟨by omega, by omega⟩
  | cons y l => exact hg.inp y (by rw [e]; simp)
theorem iv_new (n : Int) : Iv (fun v => I64 v.1) (newG n) := fun s a s1 hg h => by
  unfold newG at h
  split at h
  · cases h
  · rename_i h0
    injection h with h
    injection h with h1 h
    subst h
    subst h1
    refine ⟨⟨fun l hl => ?_, hg.inp⟩, by show I64 0; exact ⟨by omega, by omega⟩⟩
    rcases List.mem_append.1 hl with hl | hl
    · exact hg.hp l hl
    · rw [List.mem_singleton] at hl
      subst hl
      refine ⟨by rw [List.length_replicate]; omega, fun x hx => ?_⟩
      rw [List.eq_of_mem_replicate hx]
      exact ⟨by omega, by omega⟩
theorem arr_gi {s : Sg} (hg : Gi s) (q : Option Nat) : (arrOf s q).length ≤ 40 ∧ ∀ x ∈ arrOf s q, I64 x := by
  cases q with
  | none => exact ⟨by simp [arrOf], fun x hx => by cases hx⟩
  | some i =>
    show (s.hp.getD i []).length ≤ 40 ∧ ∀ x ∈ s.hp.getD i [], I64 x
    rw [List.getD_eq_getElem?_getD]
    cases e : s.hp[i]? with
    | none => exact ⟨by simp, fun x hx => by cases hx⟩
    | some l => exact hg.hp l (List.mem_of_getElem? e)
theorem iv_len (q : Option Nat) : Iv I64 (lenG q) := fun s a s1 hg h => by
  injection h with h
  injection h with h1 h
  subst h
  subst h1
  have := (arr_gi hg q).1
  exact ⟨hg, by omega, by omega⟩
theorem iv_item (q : Option Nat) (i : Int) : Iv I64 (itemG q i) := fun s a s1 hg h => by
  unfold itemG at h
  split at h
  · cases h
  · injection h with h
    injection h with h1 h
    subst h
    subst h1
    refine ⟨hg, ?_⟩
    rw [List.getD_eq_getElem?_getD]
    cases e : (arrOf s q)[i.toNat]? with
    | none => show I64 0; exact ⟨by omega, by omega⟩
    | some x => exact (arr_gi hg q).2 x (List.mem_of_getElem? e)
theorem iv_put (q : Option Nat) (i : Int) {n : Int} (hn : I64 n) : Iv (fun _ => True) (putG q i n) := fun s a s1 hg h => by
  unfold putG at h
  split at h
  · cases h
  · injection h with h
    injection h with _ h
    subst h
    refine ⟨⟨fun l hl => ?_, hg.inp⟩, trivial⟩
    obtain ⟨k, hk⟩ := List.getElem?_of_mem hl
    have hk' : (s.hp.modify (q.getD 0) (fun l => l.set i.toNat n))[k]? = some l := hk
    rw [List.getElem?_modify] at hk'
    cases e : s.hp[k]? with
    | none => rw [e] at hk'; cases hk'
    | some l0 =>
      rw [e] at hk'
      have h0 := hg.hp l0 (List.mem_of_getElem? e)
      injection hk' with hk'
      subst hk'
      split
      · refine ⟨by rw [List.length_set]; exact h0.1, fun x hx => ?_⟩
        rcases List.mem_or_eq_of_mem_set hx with hx | rfl
        · exact h0.2 x hx
        · exact hn
      · exact h0
theorem i64_wrap (x : Int) : I64 (wrap64 x) := by unfold wrap64 I64; omega
theorem i64_tmod {a b : Int} (ha : I64 a) : I64 (a.tmod b) := by
  have h1 : (a.tmod b).natAbs ≤ a.natAbs := by
    rw [Int.natAbs_tmod]
    exact Nat.mod_le _ _
  unfold I64 at ha ⊢
  by_cases h0 : 0 ≤ a
  · have h2 : 0 ≤ a.tmod b := Int.tmod_nonneg b h0
    omega
  · have h2 : a.tmod b ≤ 0 := by
      obtain ⟨x, rfl⟩ : ∃ x, a = -x := ⟨-a, by omega⟩
      rw [Int.neg_tmod]
      have := Int.tmod_nonneg b (a := x) (by omega)
      omega
    omega
theorem i64_both {op : By} {a b : Int} (ha : I64 a) : I64 (bothV op a b).1 := by
  unfold bothV
  repeat' split
  all_goals first | exact i64_wrap _ | exact i64_tmod ha | exact ⟨by decide, by decide⟩
theorem iv_both (op : By) {a b : Int} (ha : I64 a) : Iv I64 (bothG op a b) := by
  unfold bothG
  split
  · exact iv_gt _
  · exact iv_gp (i64_both ha)
theorem oi_pl {o : List Vl} (h : OI o) (p : Int) : I64 (pl o p).1 := by
  unfold pl
  rw [List.getD_eq_getElem?_getD]
  cases e : o[p.toNat]? with
  | none => show I64 0; exact ⟨by omega, by omega⟩
  | some v => exact h v (List.mem_of_getElem? e)
theorem oi_set {o : List Vl} (h : OI o) {v : Vl} (hv : I64 v.1) (i : Nat) : OI (o.set i v) := fun u hu => by
  rcases List.mem_or_eq_of_mem_set hu with hu | rfl
  · exact h u hu
  · exact hv
theorem oi_theirs {F : Mf} {o : List Vl} (h : OI o) (l : List Int) : OI (theirs F o l) := fun u hu => by
  unfold theirs at hu
  rcases List.mem_append.1 hu with hu | hu
  · obtain ⟨p, _, rfl⟩ := List.mem_map.1 hu
    exact oi_pl h p
  · rw [List.eq_of_mem_replicate hu]
    show I64 0
    exact ⟨by omega, by omega⟩
theorem iv_reck {fs : By → Option Mf} (hfs : ∀ n F, fs n = some F → FI F) {g : Nat} (ih : ∀ d F k o, FI F → OI o → Iv I64 (goN fs g d F k o)) (d : Nat) {s : Ms} (hs : I64 s.n) {o : List Vl} (ho : OI o) : Iv (fun v => I64 v.1) (reckG fs g d s o) := by
  unfold reckG
  split
  · exact iv_gp hs
  split
  · exact iv_gb (iv_both _ (oi_pl ho _)) (fun _ h => iv_gp h)
  split
  · split
    · exact iv_gt _
    · rename_i G hG
      split
      · exact iv_gt _
      · exact iv_gb (ih _ _ _ _ (hfs _ _ hG) (oi_theirs ho _)) (fun _ h => iv_gp h)
  split
  · exact iv_new _
  split
  · exact iv_gb (iv_len _) (fun _ h => iv_gp h)
  split
  · exact iv_gb (iv_item _ _) (fun _ h => iv_gp h)
  split
  · exact iv_gb iv_take (fun _ h => iv_gp h)
  · exact iv_gp (oi_pl ho _)
theorem iv_go (fs : By → Option Mf) (hfs : ∀ n F, fs n = some F → FI F) : ∀ g d F k o, FI F → OI o → Iv I64 (goN fs g d F k o)
  | 0 => fun d F k o hF ho => iv_gt _
  | g + 1 => fun d F k o hF ho => by
    have ih := iv_go fs hfs g
    rw [goN_1]
    refine iv_gb iv_pay (fun _ _ => ?_)
    split
    · exact iv_gt _
    rename_i s hk
    have hs := hF s (List.mem_of_getElem? hk)
    split
    · exact iv_gp (oi_pl ho _)
    split
    · exact ih _ _ _ _ hF ho
    split
    · split
      · exact ih _ _ _ _ hF ho
      · exact ih _ _ _ _ hF ho
    split
    · exact iv_gb (iv_tell _) (fun _ _ => ih _ _ _ _ hF ho)
    split
    · exact iv_gb (iv_put _ _ (oi_pl ho _)) (fun _ _ => ih _ _ _ _ hF ho)
    split
    · exact ih _ _ _ _ hF ho
    · exact iv_gb (iv_reck hfs ih _ hs ho) (fun _ h => ih _ _ _ _ hF (oi_set ho h _))
end Go.Proofs.YtjmbjpimabnohaaDoor.Mid

namespace Go.Proofs.YtjmbjpimabnohaaDoor.Mid
set_option linter.unusedVariables false
set_option linter.unusedSimpArgs false
open Go Go.RowKit

theorem gbb {α β γ : Type} (x : Go1 α) (f : α → Go1 β) (k : β → Go1 γ) : gb (gb x f) k = gb x (fun a => gb (f a) k) := by
  funext s
  unfold gb
  cases x s with
  | error e => rfl
  | ok p => rfl
theorem gpb {α β : Type} (a : α) (f : α → Go1 β) : gb (gp a) f = f a := rfl
/-- A step that goes on with the next one: what it does, then the rest. -/
theorem goN_do {fs : By → Option Mf} {g d : Nat} {F : Mf} {k : Nat} {o : List Vl} {s : Ms} (h : F.steps[k]? = some s) (h8 : s.code ≠ 8) (h4 : s.code ≠ 4) (h5 : s.code = 5 → (pl o s.a).1 ≠ 0) :
    goN fs (g + 1) d F k o = gb pay fun _ => gb (doG fs g d s o) fun o' => goN fs g d F (k + 1) o' := by
  rw [goN_1, h]
  congr 1
  funext _
  dsimp only
  rw [if_neg h8, if_neg h4]
  unfold doG
  by_cases e5 : s.code = 5
  · rw [if_pos e5, if_neg (h5 e5), if_neg (by omega), if_neg (by omega), if_pos (.inl e5), gpb]
  rw [if_neg e5]
  by_cases e13 : s.code = 13
  · rw [if_pos e13, if_pos e13, gbb]
    rfl
  rw [if_neg e13, if_neg e13]
  by_cases e12 : s.code = 12
  · rw [if_pos e12, if_pos e12, gbb]
    rfl
  rw [if_neg e12, if_neg e12]
  by_cases e6 : s.code = 6
  · rw [if_pos e6, if_pos (.inr e6), gpb]
  rw [if_neg e6, if_neg (by omega), gbb]
  rfl
/-- What a step does: arrays and fuel, numbers. -/
theorem hm_do {fs : By → Option Mf} {g d : Nat} {s : Ms} {o : List Vl} : Hm 1 (doG fs g d s o) := by
  unfold doG
  split
  · exact hm_le (hm_gb0 (hm_tell _) (fun _ => hm_gp _)) (by omega)
  split
  · exact hm_le (hm_gb0 (hm_put _ _ _) (fun _ => hm_gp _)) (by omega)
  split
  · exact hm_le (hm_gp _) (by omega)
  · exact hm_le (hm_gb (hm_reck (hm_go fs g) _ _ _) (fun _ => hm_gp _)) (by omega)
theorem iv_do {fs : By → Option Mf} (hfs : ∀ n F, fs n = some F → FI F) {g d : Nat} {s : Ms} {o : List Vl} (hs : I64 s.n) (ho : OI o) : Iv OI (doG fs g d s o) := by
  unfold doG
  split
  · exact iv_gb (iv_tell _) (fun _ _ => iv_gp ho)
  split
  · exact iv_gb (iv_put _ _ (oi_pl ho _)) (fun _ _ => iv_gp ho)
  split
  · exact iv_gp ho
  · exact iv_gb (iv_reck hfs (iv_go fs hfs g) _ hs ho) (fun _ h => iv_gp (oi_set ho h _))
end Go.Proofs.YtjmbjpimabnohaaDoor.Mid
