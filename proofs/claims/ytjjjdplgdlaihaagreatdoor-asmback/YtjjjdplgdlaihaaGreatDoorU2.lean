/- AsmBack, walked. -/
import Derived.Test.YtjjjdplgdlaihaaGreatDoorU1
import Derived.Laws.OwnMore
namespace Go.Proofs.YtjjjdplgdlaihaaGreatDoor
set_option linter.unusedVariables false
set_option linter.unusedSimpArgs false
open Go Go.RowKit

theorem sl_row {w : World} {B n : Nat} {v : Value} {l : List Dr} (h : w.ownsRow B 39 5 v n (ins l)) : ∃ q c, v = .slice q n c ∧ Sl w q l := by
  have hn : n = l.length := by
    have := h.1
    rw [ins_len] at this
    omega
  rcases h.2 with ⟨rfl, rfl⟩ | ⟨g, cap, cur, rfl, r⟩
  · refine ⟨none, 0, rfl, 0, 0, fun hh => absurd hh (by omega), fun i d hd => ?_⟩
    have := (List.getElem?_eq_some_iff.1 hd).1
    omega
  · refine ⟨_, _, rfl, g, 0, fun _ => rfl, fun i d hd => ?_⟩
    rw [Nat.zero_add]
    exact five_of h i d hd
theorem ins_one (l : List Dr) : ∀ u ∈ ins l, u.oneCell' = true := fun u hu => by
  simp only [ins, List.mem_flatMap] at hu
  obtain ⟨d, _, hd⟩ := hu
  simp at hd
  rcases hd with rfl | rfl | rfl | rfl | rfl <;> rfl
theorem ins_append (l m : List Dr) : ins (l ++ m) = ins l ++ ins m := by simp [ins]
theorem addr_add (g p j : Nat) : ((⟨g, p, none⟩ : Addr).add j) = ⟨g, p + j, none⟩ := by
  unfold Addr.add
  split
  · rename_i h; rw [h]; rfl
  · rfl
/-- The cells of instructions that lie somewhere. -/
theorem sl_news {w : World} {g p : Nat} {l : List Dr} (h : ∀ (i : Nat) (d : Dr), l[i]? = some d → Five w g (p + i * 5) d) (j : Nat) (u : Value) (hu : (ins l)[j]? = some u) : w.cell? ((⟨g, p, none⟩ : Addr).add j) = some u := by
  rw [addr_add]
  have hj := (List.getElem?_eq_some_iff.1 hu).1
  rw [ins_len] at hj
  have hd : l[j / 5]? = some l[j / 5] := List.getElem?_eq_getElem (by omega)
  have h1 := ins_at l (j / 5) (j % 5) _ hd (by omega)
  have e : j / 5 * 5 + j % 5 = j := by omega
  rw [e, hu] at h1
  obtain ⟨c0, c1, c2, c3, c4⟩ := h _ _ hd
  have ej : p + j = p + j / 5 * 5 + j % 5 := by omega
  rw [ej]
  have h5 : j % 5 < 5 := by omega
  generalize j % 5 = r at *
  match r, h5 with
  | 0, _ => rw [h1]; exact c0
  | 1, _ => rw [h1]; exact c1
  | 2, _ => rw [h1]; exact c2
  | 3, _ => rw [h1]; exact c3
  | 4, _ => rw [h1]; exact c4

/-- append of whatever many, at an operation that is wanted. -/
theorem wpl_append_g {P : Program} (w : World) {ops : Array Oper} {rest : List Oper} {o : Oper} {a : Act} {Q : Exit → Act → World → Prop} (hw : Region.wanted o (yielded ops a.tmps) = true) (s x : Operand) (t : TypeId)
    (ho : o.op = .call { callee := .builtin .append, args := #[s, x], argTypes := #[t, t] })
    (base : Nat) (e : TypeId) (i : TypeInfo) (z : Value) (size bytes : Nat) (ht : P.underlying t = some (.slice e)) (hi : P.info? e = some i) (hz : i.zero = some z)
    (hsize : i.size = size) (hby : i.bytes = bytes) (hzs : z.cells.size = size) (hsz : 0 < size)
    (ga n c0 : Nat) (xs : List Value) (hs : a.eval s = .slice (some ⟨ga, 0, none⟩) n c0) (hown : w.ownsRow base e size (.slice (some ⟨ga, 0, none⟩) n c0) n xs)
    (ad : Addr) (m c : Nat) (news : List Value) (hx : a.eval x = .slice (some ad) m c) (hl : news.length = m * size) (hnews : ∀ j u, news[j]? = some u → w.cell? (ad.add j) = some u) (h1 : ∀ u ∈ news, u.oneCell' = true)
    (h63 : n + m ≤ maxLen) (hbytes : (n + m) * bytes ≤ 140737488355328) (hbase : base ≤ w.heap.size) (N : Nat) (hN : n + m = N)
    (h : ∀ g cap w', w'.ownsRow base e size (.slice (some ⟨g, 0, none⟩) N cap) N (xs ++ news) → w.grownBy w' (some ga) → wpList P ops Q rest (a.put o.dst (.slice (some ⟨g, 0, none⟩) N cap)) w') :
    wpList P ops Q (o :: rest) a w := wpList_step fun K hK => by
  rw [if_pos hw]
  obtain ⟨v', w', hr, r1, r2, r3⟩ := run_append_own (P := P) w base t o.type e i z size bytes ht hi hz hsize hby hzs hsz _ n xs hown ad m c news hl hnews h1 h63 hbytes hbase
  obtain ⟨g, cap, rfl⟩ : ∃ g cap, v' = .slice (some ⟨g, 0, none⟩) (n + m) cap := by
    rcases r1.2 with ⟨e0, _⟩ | ⟨g, cap, cur, e0, _⟩
    · have := (r3.1 e0).1
      cases this
    · exact ⟨g, cap, e0⟩
  unfold Oper.wp execOp
  simp only [ho, resolve, invoke, builtin, Sem.run_bind, Sem.run_pure, Result.andThen_ok, List.map_toArray, List.map_cons, List.map_nil, hs, hx, hr]
  subst hN
  exact hK _ _ (h g cap w' r1 r2)

/-- .. and of nothing, too. -/
theorem wpl_append_any {P : Program} (w : World) {ops : Array Oper} {rest : List Oper} {o : Oper} {a : Act} {Q : Exit → Act → World → Prop} (hw : Region.wanted o (yielded ops a.tmps) = true) (s x : Operand) (t : TypeId)
    (ho : o.op = .call { callee := .builtin .append, args := #[s, x], argTypes := #[t, t] })
    (base : Nat) (e : TypeId) (i : TypeInfo) (z : Value) (size bytes : Nat) (ht : P.underlying t = some (.slice e)) (hi : P.info? e = some i) (hz : i.zero = some z)
    (hsize : i.size = size) (hby : i.bytes = bytes) (hzs : z.cells.size = size) (hsz : 0 < size)
    (ga n c0 : Nat) (xs : List Value) (hs : a.eval s = .slice (some ⟨ga, 0, none⟩) n c0) (hown : w.ownsRow base e size (.slice (some ⟨ga, 0, none⟩) n c0) n xs)
    (q : Option Addr) (m c : Nat) (news : List Value) (hx : a.eval x = .slice q m c) (hq : q = none → m = 0 ∧ c = 0) (hl : news.length = m * size) (hnews : ∀ ad, q = some ad → ∀ j u, news[j]? = some u → w.cell? (ad.add j) = some u) (h1 : ∀ u ∈ news, u.oneCell' = true)
    (h63 : n + m ≤ maxLen) (hbytes : (n + m) * bytes ≤ 140737488355328) (hbase : base ≤ w.heap.size) (N : Nat) (hN : n + m = N)
    (h : ∀ g cap w', w'.ownsRow base e size (.slice (some ⟨g, 0, none⟩) N cap) N (xs ++ news) → w.grownBy w' (some ga) → wpList P ops Q rest (a.put o.dst (.slice (some ⟨g, 0, none⟩) N cap)) w') :
    wpList P ops Q (o :: rest) a w := by
  cases q with
  | some ad => exact wpl_append_g w hw s x t ho base e i z size bytes ht hi hz hsize hby hzs hsz ga n c0 xs hs hown ad m c news hx hl (hnews ad rfl) h1 h63 hbytes hbase N hN h
  | none =>
    obtain ⟨rfl, rfl⟩ := hq rfl
    have hn : news = [] := List.length_eq_zero_iff.1 (by rw [hl]; simp)
    subst hn
    subst hN
    refine wpList_step fun K hK => ?_
    rw [if_pos hw]
    have hr := run_append_owned_none (P := P) w base t o.type e i size ht hi _ n xs hown
    unfold Oper.wp execOp
    simp only [ho, resolve, invoke, builtin, Sem.run_bind, Sem.run_pure, Result.andThen_ok, List.map_toArray, List.map_cons, List.map_nil, hs, hx, hr]
    exact hK _ _ (h ga c0 w (by simpa using hown) (World.grownBy.refl w _))

theorem rt_wfd {d : Dr} (hp : d.pl = []) (h : rtD d = true) : Wfd d := by
  have := wfd_rt _ _ _ _ _ h
  obtain ⟨o, dd, aa, bb, n, pl⟩ := d
  simp only at hp
  subst hp
  exact this
theorem widen_len (s : By) : (widen s).length ≤ 4 * s.length := by
  induction s with
  | nil => simp [widen]
  | cons c s ih =>
    have e : widen (c :: s) = (if c = 10 then [32, 32, 10, 10] else [c]) ++ widen s := by simp [widen]
    rw [e, List.length_append, List.length_cons]
    split <;> simp <;> omega

/-- Assemble of a text of instructions. -/
theorem asm_back (S : ByteArray) (w : World) (he : Env w) (hw : 11 ≤ w.heap.size) (hs : S.size < 4294967280) (l : List Dr) (h : asmV rtD S.data.toList = .ok l) (L : Nat) (hL : L = l.length) :
    Calls Tryz.prog 6 #[.string S] w fun e w' => ∃ q c, e = .returned (.tuple #[.slice q L c, .nilIface]) ∧ Sl w' q l ∧ Below w.heap.size w w' :=
  (assemble_ok S w he hw hs l h).mono fun e w' ⟨v, he, hr, hb⟩ => by
    obtain ⟨q, c, rfl, hS⟩ := sl_row hr
    exact ⟨q, c, by rw [hL]; exact he, hS, hb⟩
theorem replace_any (S : ByteArray) (w : World) (he : Env w) (hs : S.size ≤ 100000) :
    Calls Tryz.prog 19 #[.string S, .string ⟨#[10]⟩, .string ⟨#[32, 32, 10, 10]⟩] w fun e w' => e = .returned (.string ⟨(widen S.data.toList).toArray⟩) ∧ Below w.heap.size w w' := by
  obtain ⟨m, hm⟩ := he.max
  have hc := Lib.countB_le ⟨#[10]⟩ (by decide) _ S (Nat.le_refl _)
  have e4 : (ByteArray.mk #[32, 32, 10, 10]).size = 4 := rfl
  have := Tryz.strings_ReplaceAll S ⟨#[10]⟩ ⟨#[32, 32, 10, 10]⟩ m w (by omega) hm (by decide) (by rw [e4]; omega)
  have e1 : (ByteArray.mk #[10]).data.toList = [10] := rfl
  have e2 : (ByteArray.mk #[32, 32, 10, 10]).data.toList = [32, 32, 10, 10] := rfl
  rw [e1, e2, replaceAll_widen] at this
  exact this
end Go.Proofs.YtjjjdplgdlaihaaGreatDoor
