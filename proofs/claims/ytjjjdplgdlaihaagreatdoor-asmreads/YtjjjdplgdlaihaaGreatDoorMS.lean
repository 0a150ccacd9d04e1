/- written: a fact that the statements ask first. Print of an instruction that may not be. An instruction that may be is read back from its print. AsmBack's own closure: instructions as a text, walked. AsmBack, walked. -/
import Derived.Test.YtjjjdplgdlaihaaGreatDoorS1
import Derived.Test.YtjjjdplgdlaihaaGreatDoorP1
import Derived.Test.YtjjjdplgdlaihaaGreatDoorB8
import Derived.Test.YtjjjdplgdlaihaaGreatDoorMR
import Derived.Laws.OwnMore
namespace Go.Proofs.YtjjjdplgdlaihaaGreatDoor
set_option linter.unusedVariables false
open Go Go.RowKit

def wrT : By := [97, 58, 10, 98, 101, 113, 32, 120, 49, 44, 120, 48, 44, 97, 10, 106, 97, 108, 32, 120, 48, 44, 98, 10, 98, 58]
def wrO : List Dr := [⟨25, 0, 1, 0, 0, []⟩, ⟨30, 0, 0, 0, 4, []⟩]
set_option maxRecDepth 100000 in
theorem wr_asm : asmV rtD wrT = .ok wrO := by kernel_rfl
theorem wr_pr : prV ⟨22, 5, 2, 0, -8, []⟩ = [108, 100, 32, 120, 53, 44, 45, 56, 40, 120, 50, 41] := by decide +kernel
theorem wr_rt : Rt 22 5 2 0 (-8) = true := by decide +kernel

set_option maxRecDepth 100000 in
set_option maxHeartbeats 2000000 in
theorem written_any (w : World) (he : Env w) (hw : 11 ≤ w.heap.size) :
    Calls Tryz.prog 16 #[] w fun e w' => e = .returned (.bool true) ∧ Below w.heap.size w w' := by
  have HP : Hid (Calls Tryz.prog 12 #[.agg #[.int .i64 22, .int .i64 5, .int .i64 2, .int .i64 0, .int .i64 (-8)]] w fun e w' => e = .returned (.tuple #[.string ⟨#[108, 100, 32, 120, 53, 44, 45, 56, 40, 120, 50, 41]⟩, .nilIface]) ∧ Below w.heap.size w w') := by
    have := print_yes 22 5 2 0 (-8) w he wr_rt (by decide) (by decide)
    have e : prV ⟨((22 : Nat) : Int), 5, 2, 0, -8, []⟩ = [108, 100, 32, 120, 53, 44, 45, 56, 40, 120, 50, 41] := wr_pr
    rw [e] at this
    exact this
  have HA : Hid (∀ w1, Below w.heap.size w w1 → Calls Tryz.prog 6 #[.string ⟨#[97, 58, 10, 98, 101, 113, 32, 120, 49, 44, 120, 48, 44, 97, 10, 106, 97, 108, 32, 120, 48, 44, 98, 10, 98, 58]⟩] w1 fun e w' => ∃ g c, e = .returned (.tuple #[.slice (some ⟨g, 0, none⟩) 2 c, .nilIface]) ∧ (w'.cell? ⟨g, 4, none⟩ = some (.int .i64 0) ∧ w'.cell? ⟨g, 9, none⟩ = some (.int .i64 4)) ∧ Below w1.heap.size w1 w') := fun w1 hb => by
    refine (assemble_ok ⟨#[97, 58, 10, 98, 101, 113, 32, 120, 49, 44, 120, 48, 44, 97, 10, 106, 97, 108, 32, 120, 48, 44, 98, 10, 98, 58]⟩ w1 (he.below hb) (by have := hb.size; omega) (by decide) wrO wr_asm).mono ?_
    rintro e w' ⟨v, rfl, hr, hb'⟩
    obtain ⟨g, c, rfl⟩ := ownsRow_succ hr
    exact ⟨g, c, rfl, ⟨(five_of hr 0 _ rfl).c4, (five_of hr 1 _ rfl).c4⟩, hb'⟩
  clear he
  go_enter Tryz.func16, Tryz.ntmps16
  go_wp2_with (first
    | (go_at_call 12; refine HP.out.mono ?_; rintro e w1 ⟨rfl, hb1⟩; have HB1 : Hid (Below w.heap.size w w1) := hb1; clear hb1)
    | (go_at_call 6; refine (HA.out _ HB1.out).mono ?_; rintro e w2 ⟨g, c, rfl, ⟨c4, c9⟩, hb2⟩; have HB2 : Hid (Below w.heap.size w w2) := HB1.out.trans (hb2.mono HB1.out.size); clear hb2))
  go_ret
  exact ⟨rfl, HB2.out⟩
end Go.Proofs.YtjjjdplgdlaihaaGreatDoor

namespace Go.Proofs.YtjjjdplgdlaihaaGreatDoor
open Go Go.RowKit

set_option maxRecDepth 100000 in
set_option maxHeartbeats 1000000 in
theorem print_no (o d a b n : Int) (w : World) (he : Env w) (hr : Rt o d a b n = false) :
    Calls Tryz.prog 12 #[instV o d a b n] w fun e w' => e = .returned (.tuple #[.string ⟨#[]⟩, .iface 23 (.int .i64 1)]) ∧ Below w.heap.size w w' := by
  have HB1 : Hid (Below w.heap.size w (w.alloc (.cells #[.int .i64 o, .int .i64 d, .int .i64 a, .int .i64 b, .int .i64 n] 39))) := (Below.refl _ _).alloc (Nat.le_refl _) _
  have HR : Hid (∀ w', Below w.heap.size w w' → Calls Tryz.prog 36 #[instV o d a b n] w' fun e w'' => e = .returned (.bool false) ∧ Below w'.heap.size w' w'') := fun w' hb => by
    have := right_T o d a b n w' (he.below hb).tab
    rw [hr] at this
    exact this
  clear he hr
  go_enter Tryz.func12, Tryz.ntmps12
  go_wp2_with (go_at_call 36; refine (HR.out _ HB1.out).mono ?_; rintro e w2 ⟨rfl, hb2⟩)
  go_ret2
  exact ⟨rfl, HB1.out.trans (hb2.mono (by simp))⟩
end Go.Proofs.YtjjjdplgdlaihaaGreatDoor

namespace Go.Proofs.YtjjjdplgdlaihaaGreatDoor
open Go Go.RowKit

/-- What an op's parts say agrees with its shape. -/
def fitsP (o : Nat) : Bool :=
  let s := T.sh (T.kd o)
  let ks := (opsL.getD o ([], [])).2
  (ks.contains 100 || !s.rd) && ((ks.contains 97 || ks.contains 40) || !s.ra) && (ks.contains 98 || !s.rb) && (hasN ks || (decide (0 ≤ s.lo) && decide (s.hi ≤ 1))) && decide (-9223372036854775808 ≤ s.lo) && decide (s.hi ≤ 9223372036854775807)
set_option maxRecDepth 100000 in
theorem fitsP_all : ∀ o, o < 32 → 1 ≤ o → fitsP o = true := by decide

theorem wfd_rt (o d a b n : Int) (hr : Rt o d a b n = true) : Wfd ⟨o, d, a, b, n, []⟩ := by
  obtain ⟨h1, h2, h3⟩ := Rt_split hr
  have hf := fitsP_all o.toNat (by omega) (by omega)
  simp only [fitsP] at hf
  generalize T.sh (T.kd o.toNat) = s at *
  simp only [rightB, nfB, Bool.and_eq_true, decide_eq_true_eq] at h3
  obtain ⟨⟨⟨r1, r2⟩, r3⟩, ⟨n1, n2⟩, _⟩ := h3
  simp only [Bool.and_eq_true, decide_eq_true_eq] at hf
  obtain ⟨⟨⟨⟨⟨f1, f2⟩, f3⟩, f4⟩, f5⟩, f6⟩ := hf
  refine wfd_of _ h1 h2 (fit_any _ _ r1) (fit_any _ _ r2) (fit_any _ _ r3) ⟨by show _ ≤ n; omega, by show n ≤ _; omega⟩ rfl ?_ ?_ ?_ ?_
  · intro z
    simp only at z
    rw [z] at f1
    have : s.rd = false := by simpa using f1
    rw [this] at r1
    exact fit_f _ r1
  · intro z
    simp only at z
    rw [z] at f2
    have : s.ra = false := by simpa using f2
    rw [this] at r2
    exact fit_f _ r2
  · intro z
    simp only at z
    rw [z] at f3
    have : s.rb = false := by simpa using f3
    rw [this] at r3
    exact fit_f _ r3
  · intro z
    simp only at z
    rw [z] at f4
    simp at f4
    show n = 0
    omega
end Go.Proofs.YtjjjdplgdlaihaaGreatDoor

namespace Go.Proofs.YtjjjdplgdlaihaaGreatDoor
set_option linter.unusedVariables false
set_option linter.unusedSimpArgs false
open Go Go.RowKit

theorem Five.below {w w' : World} {g p : Nat} {d : Dr} {B : Nat} (h : Five w g p d) (hg : g < B) (hb : Below B w w') : Five w' g p d := by
  have c : ∀ i, w'.cell? ⟨g, i, none⟩ = w.cell? ⟨g, i, none⟩ := fun i => hb.cell (p := ⟨g, i, none⟩) hg
  exact ⟨(c _).trans h.c0, (c _).trans h.c1, (c _).trans h.c2, (c _).trans h.c3, (c _).trans h.c4⟩
theorem Sl.below {w w' : World} {q : Option Addr} {l : List Dr} (h : Sl w q l) (hb : Below w.heap.size w w') : Sl w' q l := by
  obtain ⟨g, p, h1, h2⟩ := h
  exact ⟨g, p, h1, fun i d hd => (h2 i d hd).below (World.block_lt_of_cell? w _ (h2 i d hd).c0) hb⟩
theorem z1 : (ByteArray.mk #[10]).size = 1 := rfl
theorem pr_len (d : Dr) (h : Wfd d) : (prV d).length ≤ 200 := by
  have h1 := h.ok
  have hf : Fits d := ⟨h1.d0, h1.a0, h1.b0, h1.n0⟩
  have := print_len d hf d.o.toNat (by have := h.o1; have := h.o2; omega) ⟨(opP d.o.toNat).toArray⟩ (by simpa [ByteArray.size] using parts_three d.o.toNat (by have := h.o1; have := h.o2; omega)) 3
  have e : ((⟨(opP d.o.toNat).toArray⟩ : ByteArray).data.toList.take 3) = opP d.o.toNat := by
    rw [List.take_of_length_le]
    simpa using parts_three d.o.toNat (by have := h.o1; have := h.o2; omega)
  rw [e] at this
  exact this

/-- What the closure tells. -/
def TxPost (l : List Dr) (e : Ending) : Prop := ((∀ d ∈ l, rtD d = true) ∧ ∃ S : ByteArray, e = .returned (.tuple #[.string S, .bool true]) ∧ S.data.toList = textV l ∧ S.size ≤ 300 * l.length) ∨ ((∃ d ∈ l, rtD d = false) ∧ e = .returned (.tuple #[.string ⟨#[]⟩, .bool false]))

set_option maxRecDepth 100000 in
set_option maxHeartbeats 4000000 in
theorem text_any (w : World) (he : Env w) (q : Option Addr) (c : Nat) (l : List Dr) (hl : Sl w q l) (hp : ∀ d ∈ l, d.pl = []) (hb : ∀ d ∈ l, -9223372036854775808 ≤ d.n ∧ d.n ≤ 9223372036854775807) (h30 : l.length ≤ 30) :
    Calls Tryz.prog 17 #[.slice q l.length c] w fun e w' => TxPost l e ∧ Below w.heap.size w w' := by
  obtain ⟨L, hL⟩ : ∃ L, L = l.length := ⟨_, rfl⟩
  rw [← hL] at h30 ⊢
  obtain ⟨g, p, hq, h5⟩ := hl
  rw [← hL] at hq
  have HL : Hid (L = l.length) := hL
  have H5 : Hid (∀ (i : Nat) (d : Dr), l[i]? = some d → ∀ w', Below w.heap.size w w' → Five w' g (p + i * 5) d) := fun i d hd w' hb => by
    have := h5 i d hd
    exact this.below (World.block_lt_of_cell? w _ this.c0) hb
  have HP : Hid (∀ d ∈ l, d.pl = []) := hp
  have HN : Hid (∀ d ∈ l, -9223372036854775808 ≤ d.n ∧ d.n ≤ 9223372036854775807) := hb
  have HE : Hid (∀ w', Below w.heap.size w w' → Env w') := fun w' hb => he.below hb
  clear hL h5 hp hb he
  go_enter Tryz.func17, Tryz.ntmps17
  go_wp2_with fail
  go_loopw [4, 5] (fun v4 v5 wr => ∃ (k : Nat) (S : ByteArray), k ≤ L ∧ v4 = .string S ∧ v5 = .int .i64 k ∧ S.size ≤ 300 * k ∧ Hid (S.data.toList = textV (l.take k) ∧ Below w.heap.size w wr ∧ ∀ j, j < k → ∀ d, l[j]? = some d → rtD d = true)) (fun _ v5 _ => L - (intOf v5).toNat)
  case atStart => exact ⟨0, ⟨#[]⟩, Nat.zero_le _, rfl, rfl, by simp [ByteArray.size], rfl, Below.refl _ _, fun j hj => by omega⟩
  case round =>
    obtain ⟨k, S, hk, rfl, rfl, hS, hh⟩ := hrel
    by_cases hlt : k < L
    · obtain ⟨d, hd⟩ : ∃ d, l[k]? = some d := ⟨_, List.getElem?_eq_getElem (by rw [← HL.out]; omega)⟩
      have hmem := List.mem_of_getElem? hd
      have f5 := H5.out k d hd wr hh.out.2.1
      have hpl := HP.out d hmem
      have hnb := HN.out d hmem
      have hq' := hq (by omega)
      subst hq'
      obtain ⟨o, dd, aa, bb, n, pl⟩ := d
      simp only at hpl hnb
      subst hpl
      obtain ⟨c0, c1, c2, c3, c4⟩ := f5
      simp only at c0 c1 c2 c3 c4
      have HEr : Hid (Env wr) := HE.out wr hh.out.2.1
      cases hr : Rt o dd aa bb n with
      | false =>
        have HPr : Hid (Calls Tryz.prog 12 #[instV o dd aa bb n] wr fun e w' => e = .returned (.tuple #[.string ⟨#[]⟩, .iface 23 (.int .i64 1)]) ∧ Below wr.heap.size wr w') := print_no o dd aa bb n wr HEr.out hr
        have HX : Hid (∃ d ∈ l, rtD d = false) := ⟨_, hmem, hr⟩
        clear hr hd hnb hmem
        go_wp2_with (go_at_call 12; refine HPr.out.mono ?_; rintro e w2 ⟨rfl, hb2⟩)
        go_ret2
        exact ⟨.inr ⟨HX.out, rfl⟩, hh.out.2.1.trans (hb2.mono hh.out.2.1.size)⟩
      | true =>
        obtain ⟨o1, o2, _⟩ := Rt_split hr
        obtain ⟨o', rfl⟩ : ∃ o' : Nat, o = o' := ⟨o.toNat, by omega⟩
        have hwf := wfd_rt _ _ _ _ _ hr
        obtain ⟨X, hXe⟩ : ∃ X : ByteArray, X = ⟨(prV ⟨o', dd, aa, bb, n, []⟩).toArray⟩ := ⟨_, rfl⟩
        have hX : X.size ≤ 200 := by rw [hXe, str_size]; exact pr_len _ hwf
        have HXe : Hid (X.data.toList = prV ⟨o', dd, aa, bb, n, []⟩) := by show _ = _; rw [hXe]
        have HPr : Hid (Calls Tryz.prog 12 #[instV o' dd aa bb n] wr fun e w' => e = .returned (.tuple #[.string X, .nilIface]) ∧ Below wr.heap.size wr w') := by rw [hXe]; exact print_yes o' dd aa bb n wr HEr.out hr hnb.1 hnb.2
        have HT : Hid (textV (l.take (k + 1)) = textV (l.take k) ++ (prV ⟨o', dd, aa, bb, n, []⟩ ++ [10])) := textV_take l k _ hd
        have HR : Hid (∀ j, j < k + 1 → ∀ d, l[j]? = some d → rtD d = true) := fun j hj d' hd' => by
          by_cases e : j = k
          · rw [e, hd] at hd'; injection hd' with hd'; rw [← hd']; exact hr
          · exact hh.out.2.2 j (by omega) d' hd'
        clear hr hd hnb hwf o1 o2 hXe hmem
        generalize prV ⟨o', dd, aa, bb, n, []⟩ = px at *
        go_wp2_with (go_at_call 12; refine HPr.out.mono ?_; rintro e w2 ⟨rfl, hb2⟩; have HB2 : Hid (Below wr.heap.size wr w2) := hb2; clear hb2)
        exact ⟨⟨k + 1, _, by omega, rfl, by go_num, by simp only [ByteArray.size_append, z1]; omega, by rw [HT.out, ← hh.out.1, ← HXe.out]; simp, hh.out.2.1.trans (HB2.out.mono hh.out.2.1.size), HR.out⟩, by simp [intOf]; omega⟩
    · obtain rfl : k = L := by omega
      have HF : Hid (TxPost l (.returned (.tuple #[.string S, .bool true]))) := .inl ⟨fun d hd => by
        obtain ⟨j, hj⟩ := List.getElem?_of_mem hd
        exact hh.out.2.2 j (by have := (List.getElem?_eq_some_iff.1 hj).1; have := HL.out; omega) d hj, S, rfl, by rw [hh.out.1, HL.out, List.take_length], by rw [← HL.out]; exact hS⟩
      go_wp2
      go_ret2
      exact ⟨HF.out, hh.out.2.1⟩

theorem text_yes {w : World} {q : Option Addr} {c : Nat} {l : List Dr} (h : Calls Tryz.prog 17 #[.slice q l.length c] w fun e w' => TxPost l e ∧ Below w.heap.size w w') (ha : ∀ d ∈ l, rtD d = true) :
    Calls Tryz.prog 17 #[.slice q l.length c] w fun e w' => e = .returned (.tuple #[.string ⟨(textV l).toArray⟩, .bool true]) ∧ (textV l).length ≤ 300 * l.length ∧ Below w.heap.size w w' :=
  h.mono fun e w' ⟨hp, hb⟩ => by
    rcases hp with ⟨_, S, rfl, hS, hz⟩ | ⟨⟨d, hd, hf⟩, _⟩
    · have e : S = ⟨(textV l).toArray⟩ := by cases S with | mk d => rw [← hS]
      have e2 : (textV l).length = S.size := by rw [← hS]; simp
      exact ⟨by rw [e], by omega, hb⟩
    · rw [ha d hd] at hf; cases hf
theorem text_no {w : World} {q : Option Addr} {c : Nat} {l : List Dr} (h : Calls Tryz.prog 17 #[.slice q l.length c] w fun e w' => TxPost l e ∧ Below w.heap.size w w') (ha : ¬ ∀ d ∈ l, rtD d = true) :
    Calls Tryz.prog 17 #[.slice q l.length c] w fun e w' => e = .returned (.tuple #[.string ⟨#[]⟩, .bool false]) ∧ Below w.heap.size w w' :=
  h.mono fun e w' ⟨hp, hb⟩ => by
    rcases hp with ⟨h1, _⟩ | ⟨_, rfl⟩
    · exact absurd h1 ha
    · exact ⟨rfl, hb⟩
end Go.Proofs.YtjjjdplgdlaihaaGreatDoor

namespace Go.Proofs.YtjjjdplgdlaihaaGreatDoor
set_option linter.unusedVariables false
set_option linter.unusedSimpArgs false
open Go Go.RowKit

theorem sl_row {w : World} {B n : Nat} {v : Value} {l : List Dr} (h : w.ownsRow B 39 5 v n (ins l)) : ∃ q c, v = .slice q n c ∧ Sl w q l := by
  have hn : n = l.length := by
    have := h.1
    rw [ins_len] at this
    omega
  rcases h.2 with ⟨rfl, rfl⟩ | ⟨g, cap, cur, rfl, r⟩
  · refine ⟨none, 0, rfl, 0, 0, fun hh => absurd hh (by omega), fun i d hd => ?_⟩
    have := (List.getElem?_eq_some_iff.1 hd).1
    omega
  · refine ⟨_, _, rfl, g, 0, fun _ => rfl, fun i d hd => ?_⟩
    rw [Nat.zero_add]
    exact five_of h i d hd
theorem ins_one (l : List Dr) : ∀ u ∈ ins l, u.oneCell' = true := fun u hu => by
  simp only [ins, List.mem_flatMap] at hu
  obtain ⟨d, _, hd⟩ := hu
  simp at hd
  rcases hd with rfl | rfl | rfl | rfl | rfl <;> rfl
theorem ins_append (l m : List Dr) : ins (l ++ m) = ins l ++ ins m := by simp [ins]
theorem addr_add (g p j : Nat) : ((⟨g, p, none⟩ : Addr).add j) = ⟨g, p + j, none⟩ := by
  unfold Addr.add
  split
  · rename_i h; rw [h]; rfl
  · rfl
/-- The cells of instructions that lie somewhere. -/
theorem sl_news {w : World} {g p : Nat} {l : List Dr} (h : ∀ (i : Nat) (d : Dr), l[i]? = some d → Five w g (p + i * 5) d) (j : Nat) (u : Value) (hu : (ins l)[j]? = some u) : w.cell? ((⟨g, p, none⟩ : Addr).add j) = some u := by
  rw [addr_add]
  have hj := (List.getElem?_eq_some_iff.1 hu).1
  rw [ins_len] at hj
  have hd : l[j / 5]? = some l[j / 5] := List.getElem?_eq_getElem (by omega)
  have h1 := ins_at l (j / 5) (j % 5) _ hd (by omega)
  have e : j / 5 * 5 + j % 5 = j := by omega
  rw [e, hu] at h1
  obtain ⟨c0, c1, c2, c3, c4⟩ := h _ _ hd
  have ej : p + j = p + j / 5 * 5 + j % 5 := by omega
  rw [ej]
  have h5 : j % 5 < 5 := by omega
  generalize j % 5 = r at *
  match r, h5 with
  | 0, _ => rw [h1]; exact c0
  | 1, _ => rw [h1]; exact c1
  | 2, _ => rw [h1]; exact c2
  | 3, _ => rw [h1]; exact c3
  | 4, _ => rw [h1]; exact c4

/-- append of whatever many, at an operation that is wanted. -/
theorem wpl_append_g {P : Program} (w : World) {ops : Array Oper} {rest : List Oper} {o : Oper} {a : Act} {Q : Exit → Act → World → Prop} (hw : Region.wanted o (yielded ops a.tmps) = true) (s x : Operand) (t : TypeId)
    (ho : o.op = .call { callee := .builtin .append, args := #[s, x], argTypes := #[t, t] })
    (base : Nat) (e : TypeId) (i : TypeInfo) (z : Value) (size bytes : Nat) (ht : P.underlying t = some (.slice e)) (hi : P.info? e = some i) (hz : i.zero = some z)
    (hsize : i.size = size) (hby : i.bytes = bytes) (hzs : z.cells.size = size) (hsz : 0 < size)
    (ga n c0 : Nat) (xs : List Value) (hs : a.eval s = .slice (some ⟨ga, 0, none⟩) n c0) (hown : w.ownsRow base e size (.slice (some ⟨ga, 0, none⟩) n c0) n xs)
    (ad : Addr) (m c : Nat) (news : List Value) (hx : a.eval x = .slice (some ad) m c) (hl : news.length = m * size) (hnews : ∀ j u, news[j]? = some u → w.cell? (ad.add j) = some u) (h1 : ∀ u ∈ news, u.oneCell' = true)
    (h63 : n + m ≤ maxLen) (hbytes : (n + m) * bytes ≤ 140737488355328) (hbase : base ≤ w.heap.size) (N : Nat) (hN : n + m = N)
    (h : ∀ g cap w', w'.ownsRow base e size (.slice (some ⟨g, 0, none⟩) N cap) N (xs ++ news) → w.grownBy w' (some ga) → wpList P ops Q rest (a.put o.dst (.slice (some ⟨g, 0, none⟩) N cap)) w') :
    wpList P ops Q (o :: rest) a w := wpList_step fun K hK => by
  rw [if_pos hw]
  obtain ⟨v', w', hr, r1, r2, r3⟩ := run_append_own (P := P) w base t o.type e i z size bytes ht hi hz hsize hby hzs hsz _ n xs hown ad m c news hl hnews h1 h63 hbytes hbase
  obtain ⟨g, cap, rfl⟩ : ∃ g cap, v' = .slice (some ⟨g, 0, none⟩) (n + m) cap := by
    rcases r1.2 with ⟨e0, _⟩ | ⟨g, cap, cur, e0, _⟩
    · have := (r3.1 e0).1
      cases this
    · exact ⟨g, cap, e0⟩
  unfold Oper.wp execOp
  simp only [ho, resolve, invoke, builtin, Sem.run_bind, Sem.run_pure, Result.andThen_ok, List.map_toArray, List.map_cons, List.map_nil, hs, hx, hr]
  subst hN
  exact hK _ _ (h g cap w' r1 r2)

/-- .. and of nothing, too. -/
theorem wpl_append_any {P : Program} (w : World) {ops : Array Oper} {rest : List Oper} {o : Oper} {a : Act} {Q : Exit → Act → World → Prop} (hw : Region.wanted o (yielded ops a.tmps) = true) (s x : Operand) (t : TypeId)
    (ho : o.op = .call { callee := .builtin .append, args := #[s, x], argTypes := #[t, t] })
    (base : Nat) (e : TypeId) (i : TypeInfo) (z : Value) (size bytes : Nat) (ht : P.underlying t = some (.slice e)) (hi : P.info? e = some i) (hz : i.zero = some z)
    (hsize : i.size = size) (hby : i.bytes = bytes) (hzs : z.cells.size = size) (hsz : 0 < size)
    (ga n c0 : Nat) (xs : List Value) (hs : a.eval s = .slice (some ⟨ga, 0, none⟩) n c0) (hown : w.ownsRow base e size (.slice (some ⟨ga, 0, none⟩) n c0) n xs)
    (q : Option Addr) (m c : Nat) (news : List Value) (hx : a.eval x = .slice q m c) (hq : q = none → m = 0 ∧ c = 0) (hl : news.length = m * size) (hnews : ∀ ad, q = some ad → ∀ j u, news[j]? = some u → w.cell? (ad.add j) = some u) (h1 : ∀ u ∈ news, u.oneCell' = true)
    (h63 : n + m ≤ maxLen) (hbytes : (n + m) * bytes ≤ 140737488355328) (hbase : base ≤ w.heap.size) (N : Nat) (hN : n + m = N)
    (h : ∀ g cap w', w'.ownsRow base e size (.slice (some ⟨g, 0, none⟩) N cap) N (xs ++ news) → w.grownBy w' (some ga) → wpList P ops Q rest (a.put o.dst (.slice (some ⟨g, 0, none⟩) N cap)) w') :
    wpList P ops Q (o :: rest) a w := by
  cases q with
  | some ad => exact wpl_append_g w hw s x t ho base e i z size bytes ht hi hz hsize hby hzs hsz ga n c0 xs hs hown ad m c news hx hl (hnews ad rfl) h1 h63 hbytes hbase N hN h
  | none =>
    obtain ⟨rfl, rfl⟩ := hq rfl
    have hn : news = [] := List.length_eq_zero_iff.1 (by rw [hl]; simp)
    subst hn
    subst hN
    refine wpList_step fun K hK => ?_
    rw [if_pos hw]
    have hr := run_append_owned_none (P := P) w base t o.type e i size ht hi _ n xs hown
    unfold Oper.wp execOp
    simp only [ho, resolve, invoke, builtin, Sem.run_bind, Sem.run_pure, Result.andThen_ok, List.map_toArray, List.map_cons, List.map_nil, hs, hx, hr]
    exact hK _ _ (h ga c0 w (by simpa using hown) (World.grownBy.refl w _))

theorem rt_wfd {d : Dr} (hp : d.pl = []) (h : rtD d = true) : Wfd d := by
  have := wfd_rt _ _ _ _ _ h
  obtain ⟨o, dd, aa, bb, n, pl⟩ := d
  simp only at hp
  subst hp
  exact this
theorem widen_len (s : By) : (widen s).length ≤ 4 * s.length := by
  induction s with
  | nil => simp [widen]
  | cons c s ih =>
    have e : widen (c :: s) = (if c = 10 then [32, 32, 10, 10] else [c]) ++ widen s := by simp [widen]
    rw [e, List.length_append, List.length_cons]
    split <;> simp <;> omega

/-- Assemble of a text of instructions. -/
theorem asm_back (S : ByteArray) (w : World) (he : Env w) (hw : 11 ≤ w.heap.size) (hs : S.size < 4294967280) (l : List Dr) (h : asmV rtD S.data.toList = .ok l) (L : Nat) (hL : L = l.length) :
    Calls Tryz.prog 6 #[.string S] w fun e w' => ∃ q c, e = .returned (.tuple #[.slice q L c, .nilIface]) ∧ Sl w' q l ∧ Below w.heap.size w w' :=
  (assemble_ok S w he hw hs l h).mono fun e w' ⟨v, he, hr, hb⟩ => by
    obtain ⟨q, c, rfl, hS⟩ := sl_row hr
    exact ⟨q, c, by rw [hL]; exact he, hS, hb⟩
theorem replace_any (S : ByteArray) (w : World) (he : Env w) (hs : S.size ≤ 100000) :
    Calls Tryz.prog 19 #[.string S, .string ⟨#[10]⟩, .string ⟨#[32, 32, 10, 10]⟩] w fun e w' => e = .returned (.string ⟨(widen S.data.toList).toArray⟩) ∧ Below w.heap.size w w' := by
  obtain ⟨m, hm⟩ := he.max
  have hc := Lib.countB_le ⟨#[10]⟩ (by decide) _ S (Nat.le_refl _)
  have e4 : (ByteArray.mk #[32, 32, 10, 10]).size = 4 := rfl
  have := Tryz.strings_ReplaceAll S ⟨#[10]⟩ ⟨#[32, 32, 10, 10]⟩ m w (by omega) hm (by decide) (by rw [e4]; omega)
  have e1 : (ByteArray.mk #[10]).data.toList = [10] := rfl
  have e2 : (ByteArray.mk #[32, 32, 10, 10]).data.toList = [32, 32, 10, 10] := rfl
  rw [e1, e2, replaceAll_widen] at this
  exact this
end Go.Proofs.YtjjjdplgdlaihaaGreatDoor
