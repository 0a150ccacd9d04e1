/- AsmPlaces, walked. -/
import Derived.Test.YtjjjdplgdlaihaaDoorT2
import Derived.Deep.RegionLaw
namespace Go.Proofs.YtjjjdplgdlaihaaDoor
set_option linter.unusedVariables false
set_option linter.unusedSimpArgs false
open Go Go.RowKit

theorem Five.below {w w' : World} {g p : Nat} {d : Dr} {B : Nat} (h : Five w g p d) (hg : g < B) (hb : Below B w w') : Five w' g p d := by
  have c : ∀ i, w'.cell? ⟨g, i, none⟩ = w.cell? ⟨g, i, none⟩ := fun i => hb.cell (p := ⟨g, i, none⟩) hg
  exact ⟨(c _).trans h.c0, (c _).trans h.c1, (c _).trans h.c2, (c _).trans h.c3, (c _).trans h.c4⟩
theorem ba_app (A B : ByteArray) : (A ++ B).data.toList = A.data.toList ++ B.data.toList := by simp
theorem z6 : (ByteArray.mk #[104, 101, 114, 101, 58, 10]).size = 6 := rfl
theorem z12 : (ByteArray.mk #[106, 97, 108, 32, 120, 49, 44, 104, 101, 114, 101, 10]).size = 12 := rfl
theorem z1 : (ByteArray.mk #[10]).size = 1 := rfl
theorem addr_add (g p j : Nat) : ((⟨g, p, none⟩ : Addr).add j) = ⟨g, p + j, none⟩ := by
  unfold Addr.add
  split
  · rename_i h; rw [h]; rfl
  · rfl
theorem ungrow {W W' : World} {r : Option Nat} (h : W.drew.grownBy W' r) : W.grownBy W' r := ⟨h.os, h.tape, h.output, h.size, h.block⟩
theorem regrow {W W' : World} {r : Option Nat} (h : W.grownBy W' r) : W.grownBy W'.drew r := ⟨h.os, h.tape, h.output, h.size, h.block⟩
theorem ba_of (S : ByteArray) (t : By) (h : S.data.toList = t) : S = ⟨t.toArray⟩ := by cases S with | mk d => subst h; simp

set_option maxRecDepth 100000 in
set_option maxHeartbeats 4000000 in
theorem places_any (w : World) (he : Env w) (hw : 11 ≤ w.heap.size) (q : Option Addr) (c : Nat) (l : List Dr) (a0 t0 : Int) (hl : Sl w q l) (hp : ∀ d ∈ l, d.pl = []) (hb : ∀ d ∈ l, -9223372036854775808 ≤ d.n ∧ d.n ≤ 9223372036854775807) :
    Calls Tryd.prog 3 #[.slice q l.length c, .int .i64 a0, .int .i64 t0] w fun e w' => e = .returned (.bool true) ∧ Below w.heap.size w w' := by
  obtain ⟨L, hL⟩ : ∃ L, L = l.length := ⟨_, rfl⟩
  rw [← hL]
  by_cases h60 : 60 < L
  · go_enter Tryd.func3, Tryd.ntmps3
    have h60' : (60 : Int) < L := by omega
    go_wp2
    go_ret
    exact ⟨rfl, Below.refl _ _⟩
  · have h60' : ¬ (60 : Int) < L := by omega
    have HWr : Hid (Calls Tryd.prog 4 #[] w fun e w' => e = .returned (.bool true) ∧ Below w.heap.size w w') := written_any w he hw
    have pa := pick_bound a0 ((L : Int) + 1) (by omega)
    have pt := pick_bound t0 ((L : Int) + 2) (by omega)
    have HPa : Hid (∀ w, Calls Tryd.prog 5 #[.int .i64 a0, .int .i64 ((L : Int) + 1)] w fun e w' => e = .returned (.int .i64 (pickV a0 ((L : Int) + 1))) ∧ w' = w) := fun w => pick_gen a0 _ w (by omega) (by omega)
    have HPt : Hid (∀ w, Calls Tryd.prog 5 #[.int .i64 t0, .int .i64 ((L : Int) + 2)] w fun e w' => e = .returned (.int .i64 (pickV t0 ((L : Int) + 2))) ∧ w' = w) := fun w => pick_gen t0 _ w (by omega) (by omega)
    obtain ⟨a, ha⟩ : ∃ a : Nat, pickV a0 ((L : Int) + 1) = a := ⟨(pickV a0 ((L : Int) + 1)).toNat, by omega⟩
    obtain ⟨to, ht⟩ : ∃ to : Nat, pickV t0 ((L : Int) + 2) = to := ⟨(pickV t0 ((L : Int) + 2)).toNat, by omega⟩
    rw [ha] at pa HPa
    rw [ht] at pt HPt
    have ha1 : a ≤ L := by omega
    have ht1 : to ≤ L + 1 := by omega
    have hL60 : L ≤ 60 := by omega
    have HE : Hid (∀ w', Below w.heap.size w w' → Env w') := fun w' hb => he.below hb
    have HL : Hid (L = l.length) := hL
    clear he ha ht pa pt hL
    go_enter Tryd.func3, Tryd.ntmps3
    go_wp2_with (first
      | (go_at_call 4; refine HWr.out.mono ?_; rintro e w1 ⟨rfl, hb1⟩; have HB1 : Hid (Below w.heap.size w w1) := hb1; clear hb1)
      | (go_at_call 5; fail))
    refine (HPa.out _).mono ?_
    rintro e w1 ⟨rfl, rfl⟩
    go_wp2_with (go_at_call 5; fail)
    refine (HPt.out _).mono ?_
    rintro e w1 ⟨rfl, rfl⟩
    obtain ⟨m, hm⟩ : ∃ m, m = seqL l a := ⟨_, rfl⟩
    have HM : Hid (m = seqL l a) := hm
    obtain ⟨g, p, hq, h5⟩ := hl
    rw [← HL.out] at hq
    have H5 : Hid (∀ (i : Nat) (d : Dr), l[i]? = some d → ∀ w', Below w.heap.size w w' → Five w' g (p + i * 5) d) := fun i d hd w' hb => by
      have := h5 i d hd
      exact this.below (World.block_lt_of_cell? w _ this.c0) hb
    have HP : Hid (∀ d ∈ l, d.pl = []) := hp
    have HN : Hid (∀ d ∈ l, -9223372036854775808 ≤ d.n ∧ d.n ≤ 9223372036854775807) := hb
    clear hm h5 hp hb HPa HPt HWr h60
    go_wp2_with fail
    go_loopw [7, 8] (fun v7 v8 wr => ∃ (k : Nat) (S : ByteArray), k ≤ L + 2 ∧ v7 = .string S ∧ v8 = .int .i64 k ∧ S.size ≤ 300 * k ∧ Hid (S.data.toList = pT m to k ∧ Below w.heap.size w wr ∧ ∀ j, j < k → ∀ d, m[j]? = some d → d = J ∨ rtD d = true)) (fun _ v8 _ => L + 2 - (intOf v8).toNat)
    case atStart => exact ⟨0, ⟨#[]⟩, Nat.zero_le _, rfl, rfl, by simp [ByteArray.size], by rw [pT_zero], HB1.out, fun j hj => by omega⟩
    case round =>
      obtain ⟨k, S, hk, rfl, rfl, hS, hh⟩ := hrel
      by_cases hlt : k < L + 2
      · have hlt' : (k : Int) ≤ L + 1 := by omega
        by_cases hto : k = to
        · by_cases hka : k = a
          · subst hto
            subst hka
            have hJ : m[k]? = some J := by rw [HM.out]; exact seq_eq l k (by rw [← HL.out]; exact ha1)
            have HT : Hid (pT m k (k + 1) = pT m k k ++ ([104, 101, 114, 101, 58, 10] ++ (jl ++ [10]))) := by
              show _ = _
              rw [pT_step m _ k J hJ, line_J, markT, if_pos rfl]
            have HR : Hid (∀ j, j < k + 1 → ∀ d, m[j]? = some d → d = J ∨ rtD d = true) := fun j hj d' hd' => by
              by_cases e : j = k
              · rw [e, hJ] at hd'; injection hd' with hd'; exact .inl hd'.symm
              · exact hh.out.2.2 j (by omega) d' hd'
            clear hJ
            go_wp2
            exact ⟨⟨k + 1, _, by omega, rfl, by go_num, by simp only [ByteArray.size_append, z6, z12]; omega, by rw [HT.out, ← hh.out.1]; simp [jl], hh.out.2.1, HR.out⟩, by simp [intOf]; omega⟩
          · by_cases hkL : k ≤ L
            · by_cases hlt2 : k < a
              · subst hto
                obtain ⟨d, hd⟩ : ∃ d, l[k]? = some d := ⟨_, List.getElem?_eq_getElem (by rw [← HL.out]; omega)⟩
                have hJ : m[k]? = some d := by rw [HM.out, seq_lt l a k (by rw [← HL.out]; exact ha1) hlt2]; exact hd
                have f5 := H5.out k d hd wr hh.out.2.1
                have hgt : ¬ (a : Int) < k := by omega
                have hkl : ((k : Nat) : Int) ≤ L := by omega
                have hka' : ¬ ((k : Nat) : Int) = a := by omega
                have hpl := HP.out d (List.mem_of_getElem? hd)
                have hnb := HN.out d (List.mem_of_getElem? hd)
                have hq' := hq (by omega)
                subst hq'
                obtain ⟨o, dd, aa, bb, n, pl⟩ := d
                simp only at hpl hnb
                subst hpl
                obtain ⟨c0, c1, c2, c3, c4⟩ := f5
                simp only at c0 c1 c2 c3 c4
                have HEr : Hid (Env wr) := HE.out wr hh.out.2.1
                cases hr : Rt o dd aa bb n with
                | false =>
                  have HPr : Hid (Calls Tryd.prog 6 #[instV o dd aa bb n] wr fun e w' => e = .returned (.tuple #[.string ⟨#[]⟩, .iface 37 (.int .i64 1)]) ∧ Below wr.heap.size wr w') := print_no o dd aa bb n wr HEr.out hr
                  clear hr hd hJ hnb
                  go_wp2_with (go_at_call 6; refine HPr.out.mono ?_; rintro e w2 ⟨rfl, hb2⟩)
                  go_ret
                  exact ⟨rfl, hh.out.2.1.trans (hb2.mono hh.out.2.1.size)⟩
                | true =>
                  obtain ⟨o1, o2, _⟩ := Rt_split hr
                  obtain ⟨o', rfl⟩ : ∃ o' : Nat, o = o' := ⟨o.toNat, by omega⟩
                  have hwf := wfd_rt _ _ _ _ _ hr
                  obtain ⟨X, hXe⟩ : ∃ X : ByteArray, X = ⟨(prV ⟨o', dd, aa, bb, n, []⟩).toArray⟩ := ⟨_, rfl⟩
                  have hX : X.size ≤ 200 := by rw [hXe, str_size]; exact pr_len _ hwf
                  have HXe : Hid (X.data.toList = prV ⟨o', dd, aa, bb, n, []⟩) := by show _ = _; rw [hXe]
                  have HPr : Hid (Calls Tryd.prog 6 #[instV o' dd aa bb n] wr fun e w' => e = .returned (.tuple #[.string X, .nilIface]) ∧ Below wr.heap.size wr w') := by rw [hXe]; exact print_yes o' dd aa bb n wr HEr.out hr hnb.1 hnb.2
                  have HT : Hid (pT m k (k + 1) = pT m k (k) ++ ([104, 101, 114, 101, 58, 10] ++ (prV ⟨o', dd, aa, bb, n, []⟩ ++ [10]))) := by
                    show _ = _
                    rw [pT_step m _ (k) _ hJ, line_d _ rfl, markT, if_pos rfl]
                  have HR : Hid (∀ j, j < k + 1 → ∀ d, m[j]? = some d → d = J ∨ rtD d = true) := fun j hj d' hd' => by
                    by_cases e : j = k
                    · rw [e, hJ] at hd'; injection hd' with hd'; rw [← hd']; exact .inr hr
                    · exact hh.out.2.2 j (by omega) d' hd'
                  clear hr hd hJ hnb hwf o1 o2 hXe
                  generalize prV ⟨o', dd, aa, bb, n, []⟩ = px at *
                  go_wp2_with (go_at_call 6; refine HPr.out.mono ?_; rintro e w2 ⟨rfl, hb2⟩; have HB2 : Hid (Below wr.heap.size wr w2) := hb2; clear hb2)
                  exact ⟨⟨k + 1, _, by omega, rfl, by go_num, by simp only [ByteArray.size_append, z6, z1]; omega, by rw [HT.out, ← hh.out.1, ← HXe.out]; simp, hh.out.2.1.trans (HB2.out.mono hh.out.2.1.size), HR.out⟩, by simp [intOf]; omega⟩
              · obtain ⟨kk, rfl⟩ : ∃ kk, k = kk + 1 := ⟨k - 1, by omega⟩
                obtain ⟨d, hd⟩ : ∃ d, l[kk]? = some d := ⟨_, List.getElem?_eq_getElem (by rw [← HL.out]; omega)⟩
                have hJ : m[kk + 1]? = some d := by rw [HM.out, seq_gt l a (kk + 1) (by rw [← HL.out]; exact ha1) (by omega)]; exact hd
                have f5 := H5.out kk d hd wr hh.out.2.1
                have hgt : (a : Int) < ((kk + 1 : Nat) : Int) := by omega
                have hto' : decide (((kk : Nat) : Int) + 1 = (to : Int)) = true := by rw [decide_eq_true_eq]; omega
                have hkl : ((kk + 1 : Nat) : Int) ≤ L := by omega
                have hka' : ¬ ((kk + 1 : Nat) : Int) = a := by omega
                have hpl := HP.out d (List.mem_of_getElem? hd)
                have hnb := HN.out d (List.mem_of_getElem? hd)
                have hq' := hq (by omega)
                subst hq'
                obtain ⟨o, dd, aa, bb, n, pl⟩ := d
                simp only at hpl hnb
                subst hpl
                obtain ⟨c0, c1, c2, c3, c4⟩ := f5
                simp only at c0 c1 c2 c3 c4
                have HEr : Hid (Env wr) := HE.out wr hh.out.2.1
                cases hr : Rt o dd aa bb n with
                | false =>
                  have HPr : Hid (Calls Tryd.prog 6 #[instV o dd aa bb n] wr fun e w' => e = .returned (.tuple #[.string ⟨#[]⟩, .iface 37 (.int .i64 1)]) ∧ Below wr.heap.size wr w') := print_no o dd aa bb n wr HEr.out hr
                  clear hr hd hJ hnb hto
                  go_wp2_with (go_at_call 6; refine HPr.out.mono ?_; rintro e w2 ⟨rfl, hb2⟩)
                  · go_ret
                    exact ⟨rfl, hh.out.2.1.trans (hb2.mono hh.out.2.1.size)⟩
                  · exfalso
                    have ht2 := of_decide_eq_true hto'
                    have hx : (((kk : Nat) : Int) + 1 == (to : Int)) = false := by assumption
                    rw [beq_eq_false_iff_ne] at hx
                    exact hx ht2
                | true =>
                  obtain ⟨o1, o2, _⟩ := Rt_split hr
                  obtain ⟨o', rfl⟩ : ∃ o' : Nat, o = o' := ⟨o.toNat, by omega⟩
                  have hwf := wfd_rt _ _ _ _ _ hr
                  obtain ⟨X, hXe⟩ : ∃ X : ByteArray, X = ⟨(prV ⟨o', dd, aa, bb, n, []⟩).toArray⟩ := ⟨_, rfl⟩
                  have hX : X.size ≤ 200 := by rw [hXe, str_size]; exact pr_len _ hwf
                  have HXe : Hid (X.data.toList = prV ⟨o', dd, aa, bb, n, []⟩) := by show _ = _; rw [hXe]
                  have HPr : Hid (Calls Tryd.prog 6 #[instV o' dd aa bb n] wr fun e w' => e = .returned (.tuple #[.string X, .nilIface]) ∧ Below wr.heap.size wr w') := by rw [hXe]; exact print_yes o' dd aa bb n wr HEr.out hr hnb.1 hnb.2
                  have HT : Hid (pT m to (kk + 1 + 1) = pT m to (kk + 1) ++ ([104, 101, 114, 101, 58, 10] ++ (prV ⟨o', dd, aa, bb, n, []⟩ ++ [10]))) := by
                    show _ = _
                    rw [pT_step m _ (kk + 1) _ hJ, line_d _ rfl, markT, if_pos hto]
                  have HR : Hid (∀ j, j < kk + 1 + 1 → ∀ d, m[j]? = some d → d = J ∨ rtD d = true) := fun j hj d' hd' => by
                    by_cases e : j = kk + 1
                    · rw [e, hJ] at hd'; injection hd' with hd'; rw [← hd']; exact .inr hr
                    · exact hh.out.2.2 j (by omega) d' hd'
                  clear hr hd hJ hnb hwf o1 o2 hXe hto
                  generalize prV ⟨o', dd, aa, bb, n, []⟩ = px at *
                  go_wp2_with (go_at_call 6; refine HPr.out.mono ?_; rintro e w2 ⟨rfl, hb2⟩; have HB2 : Hid (Below wr.heap.size wr w2) := hb2; clear hb2)
                  · exact ⟨⟨kk + 1 + 1, _, by omega, rfl, by go_num, by simp only [ByteArray.size_append, z6, z1]; omega, by rw [HT.out, ← hh.out.1, ← HXe.out]; simp, hh.out.2.1.trans (HB2.out.mono hh.out.2.1.size), HR.out⟩, by simp [intOf]; omega⟩
                  · exfalso
                    have ht2 := of_decide_eq_true hto'
                    have hx : (((kk : Nat) : Int) + 1 == (to : Int)) = false := by assumption
                    rw [beq_eq_false_iff_ne] at hx
                    exact hx ht2
            · subst hto
              have hkl : ¬ (k : Int) ≤ L := by omega
              have hka' : ¬ (k : Int) = a := by omega
              have hm1 : m.length = k := by rw [HM.out, seq_len l a (by rw [← HL.out]; exact ha1), ← HL.out]; omega
              have HT : Hid (pT m k (k + 1) = pT m k k ++ [104, 101, 114, 101, 58, 10]) := by
                show _ = _
                rw [← hm1, pT_last m _ (by omega), markT, if_pos rfl]
              have HR : Hid (∀ j, j < k + 1 → ∀ d, m[j]? = some d → d = J ∨ rtD d = true) := fun j hj d' hd' => by
                have := (List.getElem?_eq_some_iff.1 hd').1
                exact hh.out.2.2 j (by omega) d' hd'
              clear hm1
              go_wp2
              exact ⟨⟨k + 1, _, by omega, rfl, by go_num, by simp only [ByteArray.size_append, z6, z12]; omega, by rw [HT.out, ← hh.out.1]; simp, hh.out.2.1, HR.out⟩, by simp [intOf]; omega⟩
        · have hto' : ¬ (k : Int) = to := by omega
          by_cases hka : k = a
          · subst hka
            have hJ : m[k]? = some J := by rw [HM.out]; exact seq_eq l k (by rw [← HL.out]; exact ha1)
            have HT : Hid (pT m to (k + 1) = pT m to k ++ ([] ++ (jl ++ [10]))) := by
              show _ = _
              rw [pT_step m _ k J hJ, line_J, markT, if_neg hto]
            have HR : Hid (∀ j, j < k + 1 → ∀ d, m[j]? = some d → d = J ∨ rtD d = true) := fun j hj d' hd' => by
              by_cases e : j = k
              · rw [e, hJ] at hd'; injection hd' with hd'; exact .inl hd'.symm
              · exact hh.out.2.2 j (by omega) d' hd'
            clear hJ
            go_wp2
            exact ⟨⟨k + 1, _, by omega, rfl, by go_num, by simp only [ByteArray.size_append, z6, z12]; omega, by rw [HT.out, ← hh.out.1]; simp [jl], hh.out.2.1, HR.out⟩, by simp [intOf]; omega⟩
          · by_cases hkL : k ≤ L
            · by_cases hlt2 : k < a
              · obtain ⟨d, hd⟩ : ∃ d, l[k]? = some d := ⟨_, List.getElem?_eq_getElem (by rw [← HL.out]; omega)⟩
                have hJ : m[k]? = some d := by rw [HM.out, seq_lt l a k (by rw [← HL.out]; exact ha1) hlt2]; exact hd
                have f5 := H5.out k d hd wr hh.out.2.1
                have hgt : ¬ (a : Int) < k := by omega
                have hkl : ((k : Nat) : Int) ≤ L := by omega
                have hka' : ¬ ((k : Nat) : Int) = a := by omega
                have hpl := HP.out d (List.mem_of_getElem? hd)
                have hnb := HN.out d (List.mem_of_getElem? hd)
                have hq' := hq (by omega)
                subst hq'
                obtain ⟨o, dd, aa, bb, n, pl⟩ := d
                simp only at hpl hnb
                subst hpl
                obtain ⟨c0, c1, c2, c3, c4⟩ := f5
                simp only at c0 c1 c2 c3 c4
                have HEr : Hid (Env wr) := HE.out wr hh.out.2.1
                cases hr : Rt o dd aa bb n with
                | false =>
                  have HPr : Hid (Calls Tryd.prog 6 #[instV o dd aa bb n] wr fun e w' => e = .returned (.tuple #[.string ⟨#[]⟩, .iface 37 (.int .i64 1)]) ∧ Below wr.heap.size wr w') := print_no o dd aa bb n wr HEr.out hr
                  clear hr hd hJ hnb
                  go_wp2_with (go_at_call 6; refine HPr.out.mono ?_; rintro e w2 ⟨rfl, hb2⟩)
                  go_ret
                  exact ⟨rfl, hh.out.2.1.trans (hb2.mono hh.out.2.1.size)⟩
                | true =>
                  obtain ⟨o1, o2, _⟩ := Rt_split hr
                  obtain ⟨o', rfl⟩ : ∃ o' : Nat, o = o' := ⟨o.toNat, by omega⟩
                  have hwf := wfd_rt _ _ _ _ _ hr
                  obtain ⟨X, hXe⟩ : ∃ X : ByteArray, X = ⟨(prV ⟨o', dd, aa, bb, n, []⟩).toArray⟩ := ⟨_, rfl⟩
                  have hX : X.size ≤ 200 := by rw [hXe, str_size]; exact pr_len _ hwf
                  have HXe : Hid (X.data.toList = prV ⟨o', dd, aa, bb, n, []⟩) := by show _ = _; rw [hXe]
                  have HPr : Hid (Calls Tryd.prog 6 #[instV o' dd aa bb n] wr fun e w' => e = .returned (.tuple #[.string X, .nilIface]) ∧ Below wr.heap.size wr w') := by rw [hXe]; exact print_yes o' dd aa bb n wr HEr.out hr hnb.1 hnb.2
                  have HT : Hid (pT m to (k + 1) = pT m to (k) ++ ([] ++ (prV ⟨o', dd, aa, bb, n, []⟩ ++ [10]))) := by
                    show _ = _
                    rw [pT_step m _ (k) _ hJ, line_d _ rfl, markT, if_neg hto]
                  have HR : Hid (∀ j, j < k + 1 → ∀ d, m[j]? = some d → d = J ∨ rtD d = true) := fun j hj d' hd' => by
                    by_cases e : j = k
                    · rw [e, hJ] at hd'; injection hd' with hd'; rw [← hd']; exact .inr hr
                    · exact hh.out.2.2 j (by omega) d' hd'
                  clear hr hd hJ hnb hwf o1 o2 hXe
                  generalize prV ⟨o', dd, aa, bb, n, []⟩ = px at *
                  go_wp2_with (go_at_call 6; refine HPr.out.mono ?_; rintro e w2 ⟨rfl, hb2⟩; have HB2 : Hid (Below wr.heap.size wr w2) := hb2; clear hb2)
                  exact ⟨⟨k + 1, _, by omega, rfl, by go_num, by simp only [ByteArray.size_append, z6, z1]; omega, by rw [HT.out, ← hh.out.1, ← HXe.out]; simp, hh.out.2.1.trans (HB2.out.mono hh.out.2.1.size), HR.out⟩, by simp [intOf]; omega⟩
              · obtain ⟨kk, rfl⟩ : ∃ kk, k = kk + 1 := ⟨k - 1, by omega⟩
                obtain ⟨d, hd⟩ : ∃ d, l[kk]? = some d := ⟨_, List.getElem?_eq_getElem (by rw [← HL.out]; omega)⟩
                have hJ : m[kk + 1]? = some d := by rw [HM.out, seq_gt l a (kk + 1) (by rw [← HL.out]; exact ha1) (by omega)]; exact hd
                have f5 := H5.out kk d hd wr hh.out.2.1
                have hgt : (a : Int) < ((kk + 1 : Nat) : Int) := by omega
                have hkl : ((kk + 1 : Nat) : Int) ≤ L := by omega
                have hka' : ¬ ((kk + 1 : Nat) : Int) = a := by omega
                have hpl := HP.out d (List.mem_of_getElem? hd)
                have hnb := HN.out d (List.mem_of_getElem? hd)
                have hq' := hq (by omega)
                subst hq'
                obtain ⟨o, dd, aa, bb, n, pl⟩ := d
                simp only at hpl hnb
                subst hpl
                obtain ⟨c0, c1, c2, c3, c4⟩ := f5
                simp only at c0 c1 c2 c3 c4
                have HEr : Hid (Env wr) := HE.out wr hh.out.2.1
                cases hr : Rt o dd aa bb n with
                | false =>
                  have HPr : Hid (Calls Tryd.prog 6 #[instV o dd aa bb n] wr fun e w' => e = .returned (.tuple #[.string ⟨#[]⟩, .iface 37 (.int .i64 1)]) ∧ Below wr.heap.size wr w') := print_no o dd aa bb n wr HEr.out hr
                  clear hr hd hJ hnb
                  go_wp2_with (go_at_call 6; refine HPr.out.mono ?_; rintro e w2 ⟨rfl, hb2⟩)
                  go_ret
                  exact ⟨rfl, hh.out.2.1.trans (hb2.mono hh.out.2.1.size)⟩
                | true =>
                  obtain ⟨o1, o2, _⟩ := Rt_split hr
                  obtain ⟨o', rfl⟩ : ∃ o' : Nat, o = o' := ⟨o.toNat, by omega⟩
                  have hwf := wfd_rt _ _ _ _ _ hr
                  obtain ⟨X, hXe⟩ : ∃ X : ByteArray, X = ⟨(prV ⟨o', dd, aa, bb, n, []⟩).toArray⟩ := ⟨_, rfl⟩
                  have hX : X.size ≤ 200 := by rw [hXe, str_size]; exact pr_len _ hwf
                  have HXe : Hid (X.data.toList = prV ⟨o', dd, aa, bb, n, []⟩) := by show _ = _; rw [hXe]
                  have HPr : Hid (Calls Tryd.prog 6 #[instV o' dd aa bb n] wr fun e w' => e = .returned (.tuple #[.string X, .nilIface]) ∧ Below wr.heap.size wr w') := by rw [hXe]; exact print_yes o' dd aa bb n wr HEr.out hr hnb.1 hnb.2
                  have HT : Hid (pT m to (kk + 1 + 1) = pT m to (kk + 1) ++ ([] ++ (prV ⟨o', dd, aa, bb, n, []⟩ ++ [10]))) := by
                    show _ = _
                    rw [pT_step m _ (kk + 1) _ hJ, line_d _ rfl, markT, if_neg hto]
                  have HR : Hid (∀ j, j < kk + 1 + 1 → ∀ d, m[j]? = some d → d = J ∨ rtD d = true) := fun j hj d' hd' => by
                    by_cases e : j = kk + 1
                    · rw [e, hJ] at hd'; injection hd' with hd'; rw [← hd']; exact .inr hr
                    · exact hh.out.2.2 j (by omega) d' hd'
                  clear hr hd hJ hnb hwf o1 o2 hXe
                  generalize prV ⟨o', dd, aa, bb, n, []⟩ = px at *
                  go_wp2_with (go_at_call 6; refine HPr.out.mono ?_; rintro e w2 ⟨rfl, hb2⟩; have HB2 : Hid (Below wr.heap.size wr w2) := hb2; clear hb2)
                  exact ⟨⟨kk + 1 + 1, _, by omega, rfl, by go_num, by simp only [ByteArray.size_append, z6, z1]; omega, by rw [HT.out, ← hh.out.1, ← HXe.out]; simp, hh.out.2.1.trans (HB2.out.mono hh.out.2.1.size), HR.out⟩, by simp [intOf]; omega⟩
            · have hkl : ¬ (k : Int) ≤ L := by omega
              have hka' : ¬ (k : Int) = a := by omega
              have hm1 : m.length = k := by rw [HM.out, seq_len l a (by rw [← HL.out]; exact ha1), ← HL.out]; omega
              have HT : Hid (pT m to (k + 1) = pT m to k ++ []) := by
                show _ = _
                rw [← hm1, pT_last m _ (by omega), markT, if_neg (by omega)]
              have HR : Hid (∀ j, j < k + 1 → ∀ d, m[j]? = some d → d = J ∨ rtD d = true) := fun j hj d' hd' => by
                have := (List.getElem?_eq_some_iff.1 hd').1
                exact hh.out.2.2 j (by omega) d' hd'
              clear hm1
              go_wp2
              exact ⟨⟨k + 1, _, by omega, rfl, by go_num, by omega, by rw [HT.out, ← hh.out.1]; simp, hh.out.2.1, HR.out⟩, by simp [intOf]; omega⟩
      · obtain rfl : k = L + 2 := by omega
        have hm1 : m.length = L + 1 := by rw [HM.out, seq_len l a (by rw [← HL.out]; exact ha1), ← HL.out]
        have htx : S.data.toList = placeT m to := by
          rw [hh.out.1, ← pT_end m to (by omega), hm1]
        obtain ⟨ys, hy1, hy2, hy3⟩ := asm_place rtD m to (by omega) (fun d hd => by
          obtain ⟨j, hj⟩ := List.getElem?_of_mem hd
          rcases hh.out.2.2 j (by have := (List.getElem?_eq_some_iff.1 hj).1; omega) d hj with h | h
          · exact .inl h
          · by_cases hJ : d = J
            · exact .inl hJ
            · have hdl : d ∈ l := by
                rw [HM.out, seqL] at hd
                rcases List.mem_append.1 hd with hd | hd
                · exact List.mem_of_mem_take hd
                · rcases List.mem_cons.1 hd with hd | hd
                  · exact absurd hd hJ
                  · exact List.mem_of_mem_drop hd
              have hpl := HP.out d hdl
              refine .inr ⟨?_, hpl, h⟩
              have := wfd_rt _ _ _ _ _ h
              obtain ⟨o, dd, aa, bb, n, pl⟩ := d
              simp only at hpl
              subst hpl
              exact this) (fun j hj => jump_rt to j (by omega) (by omega))
        have hyl : ys.length = L + 1 := by omega
        rw [HM.out] at hy2 hy3
        obtain ⟨y1, y2, y3⟩ := ys_parts l a to ys (by rw [← HL.out]; exact ha1) HP.out hy2 hy3
        have H7 : Hid (Calls Tryd.prog 7 #[.string S] wr fun e w' => ∃ g c, e = .returned (.tuple #[.slice (some ⟨g, 0, none⟩) (L + 1) c, .nilIface]) ∧ w'.ownsRow wr.heap.size 30 5 (.slice (some ⟨g, 0, none⟩) (L + 1) c) (L + 1) (ins ys) ∧ Five w' g (a * 5) (jTo (4 * ((to : Int) - a))) ∧ L + 1 ≤ c ∧ c ≤ maxLen ∧ g < w'.heap.size ∧ Below wr.heap.size wr w') := by
          refine (assemble_ok S wr (HE.out wr hh.out.2.1) (by have := hh.out.2.1.size; omega) (by omega) ys (by rw [htx]; exact hy1)).mono ?_
          rintro e w' ⟨v, rfl, hr, hb⟩
          rw [hyl] at hr
          obtain ⟨g2, c2, rfl⟩ := ownsRow_succ hr
          have f5 := five_of hr a _ y3
          refine ⟨g2, c2, rfl, hr, f5, ?_, ?_, World.block_lt_of_cell? w' _ f5.c0, hb⟩
          · rcases hr.2 with ⟨e0, _⟩ | ⟨g, cap, cur, e0, _, _, h1, _⟩
            · cases e0
            · injection e0 with _ _ e3; omega
          · rcases hr.2 with ⟨e0, _⟩ | ⟨g, cap, cur, e0, _, _, _, h1, _⟩
            · cases e0
            · injection e0 with _ _ e3; omega
        have HY1 : Hid (ys.take a = l.take a) := y1
        have HY2 : Hid (ys.drop (a + 1) = l.drop a) := y2
        have HYL : Hid (ys.length = L + 1) := hyl
        clear hm1 htx hy1 hy2 hy3 y1 y2 y3 hyl
        go_wp2_with (go_at_call 7; fail)
        refine H7.out.mono ?_
        rintro e w2 ⟨g2, c2, rfl, hr2, ⟨j0, j1, j2, j3, j4⟩, hc2, hc3, hg2, hb2⟩
        simp only [jTo] at j0 j1 j2 j3 j4
        have HR2 : Hid (w2.ownsRow wr.heap.size 30 5 (.slice (some ⟨g2, 0, none⟩) (L + 1) c2) (L + 1) (ins ys)) := hr2
        have HB2 : Hid (Below w.heap.size w w2) := hh.out.2.1.trans (hb2.mono hh.out.2.1.size)
        clear hr2 hb2
        obtain ⟨i0, hi0, hz0, hz1, hz2⟩ := info_parts info30
        have HA1 : Hid ((w2.alloc (.cells #[] 30)).ownsRow w2.heap.size 30 5 (.slice (some ⟨w2.heap.size, 0, none⟩) 0 0) 0 []) := ⟨rfl, .inr ⟨w2.heap.size, 0, #[], rfl, Nat.le_refl _, heap_alloc_last w2 _, Nat.le_refl _, by unfold maxLen; omega, rfl, rfl⟩⟩
        have hal : (l.take a).length = a := by rw [List.length_take, ← HL.out]; omega
        have hdl : (l.drop a).length = L - a := by rw [List.length_drop, ← HL.out]
        have HN1 : Hid (∀ j u, (ins (l.take a))[j]? = some u → (w2.alloc (.cells #[] 30)).cell? ((⟨g2, 0, none⟩ : Addr).add j) = some u) := fun j u hj => by
          rw [← HY1.out, ins_takes, List.getElem?_take] at hj
          split at hj
          · have := row_cell HR2.out j u hj
            have e : ((⟨g2, 0, none⟩ : Addr).add j) = ⟨g2, j, none⟩ := by rw [addr_add, Nat.zero_add]
            rw [e]
            exact (((Below.refl _ w2).alloc (Nat.le_refl _) _).cell (p := ⟨g2, j, none⟩) hg2).trans this
          · cases hj
        have HL1 : Hid ((ins (l.take a)).length = a * 5) := by show _ = _; rw [ins_len, hal]
        have HL2 : Hid ((ins (l.drop a)).length = (L - a) * 5) := by show _ = _; rw [ins_len, hdl]
        have HN2 : Hid (∀ wA : World, (w2.alloc (.cells #[] 30)).grownBy wA (some w2.heap.size) → ∀ j u, (ins (l.drop a))[j]? = some u → wA.cell? ((⟨g2, (a + 1) * 5, none⟩ : Addr).add j) = some u) := fun wA hg j u hj => by
          rw [← HY2.out, ins_drop, List.getElem?_drop] at hj
          have h1 := row_cell HR2.out _ u hj
          have h2 : (w2.alloc (.cells #[] 30)).cell? ⟨g2, (a + 1) * 5 + j, none⟩ = some u := (((Below.refl _ w2).alloc (Nat.le_refl _) _).cell (p := ⟨g2, (a + 1) * 5 + j, none⟩) hg2).trans h1
          rw [addr_add]
          rw [World.cell?_of_block (w := w2.alloc (.cells #[] 30)) (hg.block g2 (by simp; omega) (by simp; omega))]
          exact h2
        have hac : a ≤ c2 := by omega
        have haL : (a : Int) ≤ L := by omega
        have hwr : IntKind.i64.wrap ((a : Int) + 1) = (a : Int) + 1 := by rw [IntKind.wrap_i64]; omega
        have htn : ((a : Int) + 1).toNat = a + 1 := by omega
        have ha0 : 0 ≤ (a : Int) + 1 := by omega
        have hle1 : (a : Int) ≤ (a : Int) + 1 := by omega
        have HSA : Hid (∀ wA : World, (w2.alloc (.cells #[] 30)).grownBy wA (some w2.heap.size) → w2.heap.size ≤ wA.heap.size) := fun wA hg => by have := hg.size; simp at this; omega
        have hw2 := HB2.out.size
        have HEQ : Hid (∀ (gA cA : Nat) (wA : World) (gB cB : Nat) (wB : World), (w2.alloc (.cells #[] 30)).grownBy wA (some w2.heap.size) → wA.ownsRow w2.heap.size 30 5 (.slice (some ⟨gA, 0, none⟩) a cA) a ([] ++ ins (l.take a)) → wA.grownBy wB (some gA) → wB.ownsRow w2.heap.size 30 5 (.slice (some ⟨gB, 0, none⟩) L cB) L (([] ++ ins (l.take a)) ++ ins (l.drop a)) →
            Calls Tryd.prog 8 #[.slice (some ⟨gB, 0, none⟩) L cB, .slice q L c] wB (fun e w' => e = .returned (.bool true) ∧ Below wB.heap.size wB w') ∧ Below w.heap.size w wB) := fun gA cA wA gB cB wB h1 h2 h3 h4 => by
          have hgA : w2.heap.size ≤ gA := by
            rcases h2.2 with ⟨e0, _⟩ | ⟨g, cap, cur, e0, hb, _⟩
            · cases e0
            · injection e0 with e1 _ _; injection e1 with e1; injection e1 with e1; omega
          have b1 : Below w.heap.size w (w2.alloc (.cells #[] 30)) := HB2.out.alloc hw2 _
          have b2 : Below w.heap.size w wA := b1.grown h1 (by simp; omega) (fun k e => by cases e; exact hw2)
          have b3 : Below w.heap.size w wB := b2.grown h3 (by have := HSA.out wA h1; omega) (fun k e => by cases e; omega)
          rw [List.nil_append, ← ins_append, List.take_append_drop] at h4
          exact ⟨equal_yes wB _ q cB c L l HL.out (by omega) ⟨gB, 0, fun _ => rfl, fun i d hd => by rw [Nat.zero_add]; exact five_of h4 i d hd⟩ ⟨g, p, by rw [← HL.out]; exact hq, fun i d hd => H5.out i d hd wB b3⟩, b3⟩
        have HN3 : Hid (c2 = a + 1 → ∀ wA : World, (w2.alloc (.cells #[] 30)).grownBy wA (some w2.heap.size) → ∀ j u, (ins (l.drop a))[j]? = some u → wA.cell? ((⟨g2, 0, none⟩ : Addr).add j) = some u) := fun hcc wA _ j u hj => by
          have h1 := (List.getElem?_eq_some_iff.1 hj).1
          rw [HL2.out] at h1
          omega
        clear hal hdl
        by_cases hcc : c2 = a + 1
        · have HN4 := HN3.out hcc
          have HN5 : Hid _ := HN4
          clear HN4
          subst hcc
          go_wp2_with fail
          go_region_law (first
            | (refine step_append_own _ rfl (.tmp 99) (.tmp 102) 22 rfl w2.heap.size 30 i0 _ 5 40 Tryd.underlying22 hi0 hz0 hz1 hz2 rfl (by decide) w2.heap.size 0 0 [] (by simp [Act.eval]) HA1.out ⟨g2, 0, none⟩ a (a + 1) (ins (l.take a)) (by simp [Act.eval]) HL1.out HN1.out (ins_one _) (by unfold maxLen; omega) (by omega) (by simp) a (by omega) ?_; intro gA cA wA hoA hgA; have HGA : Hid ((w2.alloc (.cells #[] 30)).grownBy wA (some w2.heap.size)) := (by first | exact hgA | exact ungrow hgA | exact ungrow (ungrow hgA)); have HOA : Hid (wA.ownsRow w2.heap.size 30 5 (.slice (some ⟨gA, 0, none⟩) a cA) a ([] ++ ins (l.take a))) := hoA; clear hgA hoA)
            | (refine step_append_own _ rfl (.tmp 103) (.tmp 107) 22 rfl w2.heap.size 30 i0 _ 5 40 Tryd.underlying22 hi0 hz0 hz1 hz2 rfl (by decide) gA a cA _ (by simp [Act.eval]) HOA.out ⟨g2, 0, none⟩ (L - a) ((a + 1) - (a + 1)) (ins (l.drop a)) (by simp [Act.eval]; omega) HL2.out (HN5.out wA HGA.out) (ins_one _) (by unfold maxLen; omega) (by omega) (HSA.out wA HGA.out) L (by omega) ?_; intro gB cB wB hoB hgB; have HGB : Hid (wA.grownBy wB (some gA)) := (by first | exact hgB | exact ungrow hgB | exact ungrow (ungrow hgB)); have HOB : Hid (wB.ownsRow w2.heap.size 30 5 (.slice (some ⟨gB, 0, none⟩) L cB) L (([] ++ ins (l.take a)) ++ ins (l.drop a))) := hoB; clear hgB hoB)
            | (go_simp; go_at_call 8; (first | refine (HEQ.out _ _ _ _ _ _ HGA.out HOA.out HGB.out HOB.out).1.mono ?_ | refine (HEQ.out _ _ _ _ _ _ HGA.out HOA.out (regrow HGB.out) HOB.out).1.mono ?_); rintro e w5 ⟨rfl, hb5⟩; dsimp only))
          all_goals go_wp2
          all_goals go_ret
          all_goals exact ⟨rfl, (HEQ.out _ _ _ _ _ _ HGA.out HOA.out HGB.out HOB.out).2.trans (hb5.mono (HEQ.out _ _ _ _ _ _ HGA.out HOA.out HGB.out HOB.out).2.size)⟩
        · go_wp2_with fail
          go_region_law (first
            | (refine step_append_own _ rfl (.tmp 99) (.tmp 102) 22 rfl w2.heap.size 30 i0 _ 5 40 Tryd.underlying22 hi0 hz0 hz1 hz2 rfl (by decide) w2.heap.size 0 0 [] (by simp [Act.eval]) HA1.out ⟨g2, 0, none⟩ a c2 (ins (l.take a)) (by simp [Act.eval]) HL1.out HN1.out (ins_one _) (by unfold maxLen; omega) (by omega) (by simp) a (by omega) ?_; intro gA cA wA hoA hgA; have HGA : Hid ((w2.alloc (.cells #[] 30)).grownBy wA (some w2.heap.size)) := (by first | exact hgA | exact ungrow hgA | exact ungrow (ungrow hgA)); have HOA : Hid (wA.ownsRow w2.heap.size 30 5 (.slice (some ⟨gA, 0, none⟩) a cA) a ([] ++ ins (l.take a))) := hoA; clear hgA hoA)
            | (refine step_append_own _ rfl (.tmp 103) (.tmp 107) 22 rfl w2.heap.size 30 i0 _ 5 40 Tryd.underlying22 hi0 hz0 hz1 hz2 rfl (by decide) gA a cA _ (by simp [Act.eval]) HOA.out ⟨g2, (a + 1) * 5, none⟩ (L - a) (c2 - (a + 1)) (ins (l.drop a)) (by simp [Act.eval]) HL2.out (HN2.out wA HGA.out) (ins_one _) (by unfold maxLen; omega) (by omega) (HSA.out wA HGA.out) L (by omega) ?_; intro gB cB wB hoB hgB; have HGB : Hid (wA.grownBy wB (some gA)) := (by first | exact hgB | exact ungrow hgB | exact ungrow (ungrow hgB)); have HOB : Hid (wB.ownsRow w2.heap.size 30 5 (.slice (some ⟨gB, 0, none⟩) L cB) L (([] ++ ins (l.take a)) ++ ins (l.drop a))) := hoB; clear hgB hoB)
            | (go_simp; go_at_call 8; (first | refine (HEQ.out _ _ _ _ _ _ HGA.out HOA.out HGB.out HOB.out).1.mono ?_ | refine (HEQ.out _ _ _ _ _ _ HGA.out HOA.out (regrow HGB.out) HOB.out).1.mono ?_); rintro e w5 ⟨rfl, hb5⟩; dsimp only))
          all_goals go_wp2
          all_goals go_ret
          all_goals exact ⟨rfl, (HEQ.out _ _ _ _ _ _ HGA.out HOA.out HGB.out HOB.out).2.trans (hb5.mono (HEQ.out _ _ _ _ _ _ HGA.out HOA.out HGB.out HOB.out).2.size)⟩
end Go.Proofs.YtjjjdplgdlaihaaDoor
