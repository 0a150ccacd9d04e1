/- AsmBack's own closure: instructions as a text, walked. -/
import Derived.Test.YtjjjdplgdlaihaaGreatDoorU0
import Derived.Test.YtjjjdplgdlaihaaGreatDoorV0
import Derived.Test.YtjjjdplgdlaihaaGreatDoorP3
import Derived.Test.YtjjjdplgdlaihaaGreatDoorW0
namespace Go.Proofs.YtjjjdplgdlaihaaGreatDoor
set_option linter.unusedVariables false
set_option linter.unusedSimpArgs false
open Go Go.RowKit

theorem Five.below {w w' : World} {g p : Nat} {d : Dr} {B : Nat} (h : Five w g p d) (hg : g < B) (hb : Below B w w') : Five w' g p d := by
  have c : ∀ i, w'.cell? ⟨g, i, none⟩ = w.cell? ⟨g, i, none⟩ := fun i => hb.cell (p := ⟨g, i, none⟩) hg
  exact ⟨(c _).trans h.c0, (c _).trans h.c1, (c _).trans h.c2, (c _).trans h.c3, (c _).trans h.c4⟩
theorem Sl.below {w w' : World} {q : Option Addr} {l : List Dr} (h : Sl w q l) (hb : Below w.heap.size w w') : Sl w' q l := by
  obtain ⟨g, p, h1, h2⟩ := h
  exact ⟨g, p, h1, fun i d hd => (h2 i d hd).below (World.block_lt_of_cell? w _ (h2 i d hd).c0) hb⟩
theorem z1 : (ByteArray.mk #[10]).size = 1 := rfl
theorem pr_len (d : Dr) (h : Wfd d) : (prV d).length ≤ 200 := by
  have h1 := h.ok
  have hf : Fits d := ⟨h1.d0, h1.a0, h1.b0, h1.n0⟩
  have := print_len d hf d.o.toNat (by have := h.o1; have := h.o2; omega) ⟨(opP d.o.toNat).toArray⟩ (by simpa [ByteArray.size] using parts_three d.o.toNat (by have := h.o1; have := h.o2; omega)) 3
  have e : ((⟨(opP d.o.toNat).toArray⟩ : ByteArray).data.toList.take 3) = opP d.o.toNat := by
    rw [List.take_of_length_le]
    simpa using parts_three d.o.toNat (by have := h.o1; have := h.o2; omega)
  rw [e] at this
  exact this

/-- What the closure tells. -/
def TxPost (l : List Dr) (e : Ending) : Prop := ((∀ d ∈ l, rtD d = true) ∧ ∃ S : ByteArray, e = .returned (.tuple #[.string S, .bool true]) ∧ S.data.toList = textV l ∧ S.size ≤ 300 * l.length) ∨ ((∃ d ∈ l, rtD d = false) ∧ e = .returned (.tuple #[.string ⟨#[]⟩, .bool false]))

set_option maxRecDepth 100000 in
set_option maxHeartbeats 4000000 in
theorem text_any (w : World) (he : Env w) (q : Option Addr) (c : Nat) (l : List Dr) (hl : Sl w q l) (hp : ∀ d ∈ l, d.pl = []) (hb : ∀ d ∈ l, -9223372036854775808 ≤ d.n ∧ d.n ≤ 9223372036854775807) (h30 : l.length ≤ 30) :
    Calls Tryz.prog 17 #[.slice q l.length c] w fun e w' => TxPost l e ∧ Below w.heap.size w w' := by
  obtain ⟨L, hL⟩ : ∃ L, L = l.length := ⟨_, rfl⟩
  rw [← hL] at h30 ⊢
  obtain ⟨g, p, hq, h5⟩ := hl
  rw [← hL] at hq
  have HL : Hid (L = l.length) := hL
  have H5 : Hid (∀ (i : Nat) (d : Dr), l[i]? = some d → ∀ w', Below w.heap.size w w' → Five w' g (p + i * 5) d) := fun i d hd w' hb => by
    have := h5 i d hd
    exact this.below (World.block_lt_of_cell? w _ this.c0) hb
  have HP : Hid (∀ d ∈ l, d.pl = []) := hp
  have HN : Hid (∀ d ∈ l, -9223372036854775808 ≤ d.n ∧ d.n ≤ 9223372036854775807) := hb
  have HE : Hid (∀ w', Below w.heap.size w w' → Env w') := fun w' hb => he.below hb
  clear hL h5 hp hb he
  go_enter Tryz.func17, Tryz.ntmps17
  go_wp2_with fail
  go_loopw [4, 5] (fun v4 v5 wr => ∃ (k : Nat) (S : ByteArray), k ≤ L ∧ v4 = .string S ∧ v5 = .int .i64 k ∧ S.size ≤ 300 * k ∧ Hid (S.data.toList = textV (l.take k) ∧ Below w.heap.size w wr ∧ ∀ j, j < k → ∀ d, l[j]? = some d → rtD d = true)) (fun _ v5 _ => L - (intOf v5).toNat)
  case atStart => exact ⟨0, ⟨#[]⟩, Nat.zero_le _, rfl, rfl, by simp [ByteArray.size], rfl, Below.refl _ _, fun j hj => by omega⟩
  case round =>
    obtain ⟨k, S, hk, rfl, rfl, hS, hh⟩ := hrel
    by_cases hlt : k < L
    · obtain ⟨d, hd⟩ : ∃ d, l[k]? = some d := ⟨_, List.getElem?_eq_getElem (by rw [← HL.out]; omega)⟩
      have hmem := List.mem_of_getElem? hd
      have f5 := H5.out k d hd wr hh.out.2.1
      have hpl := HP.out d hmem
      have hnb := HN.out d hmem
      have hq' := hq (by omega)
      subst hq'
      obtain ⟨o, dd, aa, bb, n, pl⟩ := d
      simp only at hpl hnb
      subst hpl
      obtain ⟨c0, c1, c2, c3, c4⟩ := f5
      simp only at c0 c1 c2 c3 c4
      have HEr : Hid (Env wr) := HE.out wr hh.out.2.1
      cases hr : Rt o dd aa bb n with
      | false =>
        have HPr : Hid (Calls Tryz.prog 12 #[instV o dd aa bb n] wr fun e w' => e = .returned (.tuple #[.string ⟨#[]⟩, .iface 23 (.int .i64 1)]) ∧ Below wr.heap.size wr w') := print_no o dd aa bb n wr HEr.out hr
        have HX : Hid (∃ d ∈ l, rtD d = false) := ⟨_, hmem, hr⟩
        clear hr hd hnb hmem
        go_wp2_with (go_at_call 12; refine HPr.out.mono ?_; rintro e w2 ⟨rfl, hb2⟩)
        go_ret2
        exact ⟨.inr ⟨HX.out, rfl⟩, hh.out.2.1.trans (hb2.mono hh.out.2.1.size)⟩
      | true =>
        obtain ⟨o1, o2, _⟩ := Rt_split hr
        obtain ⟨o', rfl⟩ : ∃ o' : Nat, o = o' := ⟨o.toNat, by omega⟩
        have hwf := wfd_rt _ _ _ _ _ hr
        obtain ⟨X, hXe⟩ : ∃ X : ByteArray, X = ⟨(prV ⟨o', dd, aa, bb, n, []⟩).toArray⟩ := ⟨_, rfl⟩
        have hX : X.size ≤ 200 := by rw [hXe, str_size]; exact pr_len _ hwf
        have HXe : Hid (X.data.toList = prV ⟨o', dd, aa, bb, n, []⟩) := by show _ = _; rw [hXe]
        have HPr : Hid (Calls Tryz.prog 12 #[instV o' dd aa bb n] wr fun e w' => e = .returned (.tuple #[.string X, .nilIface]) ∧ Below wr.heap.size wr w') := by rw [hXe]; exact print_yes o' dd aa bb n wr HEr.out hr hnb.1 hnb.2
        have HT : Hid (textV (l.take (k + 1)) = textV (l.take k) ++ (prV ⟨o', dd, aa, bb, n, []⟩ ++ [10])) := textV_take l k _ hd
        have HR : Hid (∀ j, j < k + 1 → ∀ d, l[j]? = some d → rtD d = true) := fun j hj d' hd' => by
          by_cases e : j = k
          · rw [e, hd] at hd'; injection hd' with hd'; rw [← hd']; exact hr
          · exact hh.out.2.2 j (by omega) d' hd'
        clear hr hd hnb hwf o1 o2 hXe hmem
        generalize prV ⟨o', dd, aa, bb, n, []⟩ = px at *
        go_wp2_with (go_at_call 12; refine HPr.out.mono ?_; rintro e w2 ⟨rfl, hb2⟩; have HB2 : Hid (Below wr.heap.size wr w2) := hb2; clear hb2)
        exact ⟨⟨k + 1, _, by omega, rfl, by go_num, by simp only [ByteArray.size_append, z1]; omega, by rw [HT.out, ← hh.out.1, ← HXe.out]; simp, hh.out.2.1.trans (HB2.out.mono hh.out.2.1.size), HR.out⟩, by simp [intOf]; omega⟩
    · obtain rfl : k = L := by omega
      have HF : Hid (TxPost l (.returned (.tuple #[.string S, .bool true]))) := .inl ⟨fun d hd => by
        obtain ⟨j, hj⟩ := List.getElem?_of_mem hd
        exact hh.out.2.2 j (by have := (List.getElem?_eq_some_iff.1 hj).1; have := HL.out; omega) d hj, S, rfl, by rw [hh.out.1, HL.out, List.take_length], by rw [← HL.out]; exact hS⟩
      go_wp2
      go_ret2
      exact ⟨HF.out, hh.out.2.1⟩

theorem text_yes {w : World} {q : Option Addr} {c : Nat} {l : List Dr} (h : Calls Tryz.prog 17 #[.slice q l.length c] w fun e w' => TxPost l e ∧ Below w.heap.size w w') (ha : ∀ d ∈ l, rtD d = true) :
    Calls Tryz.prog 17 #[.slice q l.length c] w fun e w' => e = .returned (.tuple #[.string ⟨(textV l).toArray⟩, .bool true]) ∧ (textV l).length ≤ 300 * l.length ∧ Below w.heap.size w w' :=
  h.mono fun e w' ⟨hp, hb⟩ => by
    rcases hp with ⟨_, S, rfl, hS, hz⟩ | ⟨⟨d, hd, hf⟩, _⟩
    · have e : S = ⟨(textV l).toArray⟩ := by cases S with | mk d => rw [← hS]
      have e2 : (textV l).length = S.size := by rw [← hS]; simp
      exact ⟨by rw [e], by omega, hb⟩
    · rw [ha d hd] at hf; cases hf
theorem text_no {w : World} {q : Option Addr} {c : Nat} {l : List Dr} (h : Calls Tryz.prog 17 #[.slice q l.length c] w fun e w' => TxPost l e ∧ Below w.heap.size w w') (ha : ¬ ∀ d ∈ l, rtD d = true) :
    Calls Tryz.prog 17 #[.slice q l.length c] w fun e w' => e = .returned (.tuple #[.string ⟨#[]⟩, .bool false]) ∧ Below w.heap.size w w' :=
  h.mono fun e w' ⟨hp, hb⟩ => by
    rcases hp with ⟨h1, _⟩ | ⟨_, rfl⟩
    · exact absurd h1 ha
    · exact ⟨rfl, hb⟩
end Go.Proofs.YtjjjdplgdlaihaaGreatDoor
