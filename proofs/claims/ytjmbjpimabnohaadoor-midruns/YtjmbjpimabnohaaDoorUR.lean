/- The document's run of steps: step at Call. -/
import Derived.Test.YtjmbjpimabnohaaDoorUX
import Derived.Test.YtjmbjpimabnohaaDoorUG
namespace Go.Proofs.YtjmbjpimabnohaaDoor.Mid
set_option linter.unusedVariables false
set_option linter.unusedSimpArgs false
open Go Go.RowKit

theorem own_low {w : World} {B B' e z n : Nat} {v : Value} {l : List Value} (h : w.ownsRow B e z v n l) (hb : B' ≤ B) : w.ownsRow B' e z v n l := ⟨h.1, h.2.elim .inl (fun ⟨g, cap, cur, a, b, c⟩ => .inr ⟨g, cap, cur, a, Nat.le_trans hb b, c⟩)⟩
theorem grow_bel {B : Nat} {w w1 w2 : World} {v : Value} (hB : B ≤ w.heap.size) (hb : Below B w w1) (h : w1.grownBy w2 v.ownBlock) (hv : ∀ i, v.ownBlock = some i → B ≤ i) : Below B w w2 :=
  ⟨h.os.trans hb.os, h.tape.trans hb.tape, h.output.trans hb.output, Nat.le_trans hb.size h.size, fun b hbb => by rw [h.block b (by have := hb.size; omega) (fun e => by have := hv b e.symm; omega)]; exact hb.block b hbb⟩
section
variable {X : Qx} {F : Mf} {w : World} {r : Rr} {g d ob : Nat} {o : List Vl} {s : Ms} {ql : Option Addr} {cl : Nat} {y6 y8 : ByteArray} {qa : Option Addr} {na ca : Nat} {L : List Mf}
/-- Behind the call: the place is written. -/
theorem cl_fin {A : Obj} {wr w2 : World} {G : Mf} {j : Nat} {z : Int} {x : Except (Int × List Int) (Int × Sg)} (h : SgE X F w r d ob o) (hd : isB F (j : Int) 1 = true) (hB : Below (w.heap.size + 1) (w.alloc A) wr) (hp : CdP X wr.drew r d x (.returned (.int .i64 z)) w2) :
    w2.heap[w.heap.size]? = some A ∧ (∃ v, w2.cell? ⟨ob, j, none⟩ = some v) ∧ w2.frozen? ⟨ob, j, none⟩ = false ∧ SgP X F w r d ob (gb (fun _ => x) (fun n => gp (o.set j (n, none))) r.s) (.returned (.tuple #[])) (w2.setCell ⟨ob, j, none⟩ (.int .i64 z)) := by
  have hbw : Below w.heap.size w wr := (al_bel w A).trans (hB.mono (by omega))
  have hsz : w.heap.size + 1 ≤ wr.heap.size := by have := hB.size; simpa using this
  obtain ⟨n, hn, r', way, h1, h2, h3⟩ := hp
  have hn' : z = n := by injection hn with hn; injection hn
  subst hn'
  have hz0 : Wz X.P NoE w r wr r := Wz.below hbw
  have hz : Wz X.P NoE w r w2 r' := hz0.trans h2.undrew
  have how : OwR X.P w2 r' ob F o := h.ow.on hz (fun e => e)
  obtain ⟨i, ei, i1, i2, i3, _⟩ := how.get hd
  have ei' : i = j := by omega
  subst ei'
  obtain ⟨i9, e9, _, hty⟩ := is_get hd
  have e9' : i9 = i := by omega
  subst e9'
  refine ⟨?_, ⟨_, i2⟩, i3, rfl, r', way, h1.setL how.nx h.lo, hz.no.setE, ?_⟩
  · rw [h2.undrew.blk w.heap.size (by omega) (h.wm.newX (Nat.le_refl _)) (fun e => e), hB.block _ (by omega)]
    exact heap_alloc_last _ _
  · rcases h3 with ⟨rfl, rfl⟩ | ⟨h4, rfl⟩
    · exact .inl ⟨_, rfl, rfl, how.put (t := 1) (x := (z, none)) hty (fun e => by cases e)⟩
    · exact .inr ⟨h4, rfl⟩
set_option maxRecDepth 100000 in
set_option maxHeartbeats 4000000 in
theorem sg_call (hE : CdE X L ql cl) (hC : CallR X L ql cl g) (h : SgE X F w r d ob o) (hc : s.code = 7) (hd : isB F s.dst 1 = true) (hf : fitsB F (fsL L s.name) s.args = true) (hy8 : y8 = ⟨s.name.toArray⟩) (hargs : IntsAt X.w0 (.slice qa na ca) s.args) (hoi : OI o) (hgi : Gi r.s) (hfs : hfS r.s ≤ 10000000) (hne : ∀ out, doG (fsL L) g d s o r.s ≠ .error (99, out)) :
    Calls Tryd.prog 48 (sgA X ql L.length cl ob o.length s y6 y8 qa na ca) w (SgP X F w r d ob (doG (fsL L) g d s o r.s)) := by
  obtain ⟨G, hG, hgl, hgt⟩ := fits_at (fs := fsL L) hf (fun nm G hG => hE.rv.pl G (fsL_mem hG).1)
  have hdo := do_7 (fs := fsL L) (g := g) (d := d) (o := o) hc hG
  rw [hdo] at hne ⊢
  have hne1 := (gb_ne hne).1
  obtain ⟨code, dst, a, b, c, n, op, label, name, args⟩ := s
  dsimp only at hc hd hf hy8 hargs hne hne1 hG hgl hgt hdo ⊢
  subst hc
  obtain ⟨j, rfl, h1, hty⟩ := is_get hd
  obtain ⟨qa', ca', e1, hal, -, hac⟩ := hargs
  injection e1 with e1 e2 e3
  subst e1 e2 e3
  obtain ⟨A, hA⟩ : ∃ A : Obj, A = .cells #[.int .i64 7, .int .i64 (j : Int), .int .i64 a, .int .i64 b, .int .i64 c, .int .i64 n, .string y6, .int .i64 label, .string y8, .slice qa args.length ca] 58 := ⟨_, rfl⟩
  have HX : Hid (SgE X F w r d ob o ∧ isB F (j : Int) 1 = true) := ⟨h, hd⟩
  have HAr : Hid (args.length ≤ G.types.length ∧ (∀ (j : Nat) (x t : Int), args[j]? = some x → G.types[j]? = some t → isB F x t = true) ∧ args.length ≤ 1000000 ∧ (args = [] ∨ ∃ g o, qa = some ⟨g, o, none⟩ ∧ ∀ j x, args[j]? = some x → X.w0.cell? ⟨g, o + j, none⟩ = some (.int .i64 x))) := ⟨hgl, hgt, hal, hac⟩
  have HCl : Hid (∀ wr q c, Below (w.heap.size + 1) (w.alloc A) wr → wr.ownsRow (w.heap.size + 1) 2 1 (.slice q args.length c) args.length (ints (args.map (nArg F o))) → Calls Tryd.prog 33 #[ptr X.P, .slice ql L.length cl, .string y8, .slice q args.length c] wr.drew (fun e w2 => ∃ z, e = .returned (.int .i64 z) ∧ CdP X wr.drew r d (callG (fsL L) g d G (theirs G o args) r.s) (.returned (.int .i64 z)) w2)) := fun wr q c hB hown => by
    have hbw : Below w.heap.size w wr := (al_bel w A).trans (hB.mono (by omega))
    have hbd : Below w.heap.size w wr.drew := hbw.drew
    rw [hy8]
    refine (hC name G hG wr.drew r d (theirs G o args) (args.map (nArg F o)) q args.length c ⟨h.wm.below hbd, ?_, fun b hb => ?_, ar_args (h.ow.on (E := NoE) (Wz.below hbd) (fun e => e)) hgl hgt, oi_theirs hoi args, hgi, hfs⟩ hne1).mono ?_
    · have h0 := h.wm.le
      exact own_low (own_at hown (fun k hk => rfl)) (by omega)
    · have := hown.lt b hb
      exact h.wm.newX (by omega)
    · rintro e w2 ⟨z, rfl, hz⟩
      exact ⟨z, rfl, z, rfl, hz⟩
  have HFi : Hid (∀ wr w2 z, Below (w.heap.size + 1) (w.alloc A) wr → CdP X wr.drew r d (callG (fsL L) g d G (theirs G o args) r.s) (.returned (.int .i64 z)) w2 → w2.cell? ⟨w.heap.size, 1, none⟩ = some (.int .i64 (j : Int)) ∧ (∃ v, w2.cell? ⟨ob, j, none⟩ = some v) ∧ w2.frozen? ⟨ob, j, none⟩ = false ∧ SgP X F w r d ob ((gb (callG (fsL L) g d G (theirs G o args)) fun n => gp (o.set (j : Int).toNat (n, none))) r.s) (.returned (.tuple #[])) (w2.setCell ⟨ob, j, none⟩ (.int .i64 z))) := fun wr w2 z hB hp => by
    obtain ⟨p1, p2, p3, p4⟩ := cl_fin (G := G) h hd hB hp
    exact ⟨cell_at (i := 1) (by rw [p1, hA]) rfl, p2, p3, p4⟩
  show Calls Tryd.prog 48 #[ptr X.P, .slice ql L.length cl, .slice (some ⟨ob, 0, none⟩) o.length o.length, .agg #[.int .i64 7, .int .i64 (j : Int), .int .i64 a, .int .i64 b, .int .i64 c, .int .i64 n, .string y6, .int .i64 label, .string y8, .slice qa args.length ca]] w _
  generalize SgP X F w r d ob ((gb (callG (fsL L) g d G (theirs G o args)) fun n => gp (o.set (j : Int).toNat (n, none))) r.s) = GG at HFi ⊢
  obtain ⟨kl, hkl⟩ : ∃ kl, o.length = kl := ⟨_, rfl⟩
  have HK : Hid (o.length = kl) := hkl
  have hk6 := h.kl
  have hjl : j < o.length := by rw [h.ow.len]; exact h1
  rw [hkl] at hjl hk6 ⊢
  have hl9 : (j : Int) < (kl : Int) := by omega
  obtain ⟨m, hm⟩ : ∃ m, args.length = m := ⟨_, rfl⟩
  have HM : Hid (args.length = m) := hm
  rw [hm] at hA hal ⊢
  have HA : Hid (A = .cells #[.int .i64 7, .int .i64 (j : Int), .int .i64 a, .int .i64 b, .int .i64 c, .int .i64 n, .string y6, .int .i64 label, .string y8, .slice qa m ca] 58) := hA
  obtain ⟨ll, hll⟩ : ∃ ll, L.length = ll := ⟨_, rfl⟩
  rw [hll] at HCl ⊢
  clear h hA hkl hd hdo hty h1 hf hy8 hoi hgi hfs hne hne1 hG hgl hgt hac hm hll hC hE
  go_enter Tryd.func48, Tryd.ntmps48
  go_wp2_with fail
  go_loopw [9, 66] (fun v i wr => ∃ (k : Nat) (q : Option Addr) (c : Nat), k ≤ m ∧ i = .int .i64 k ∧ v = .slice q k c ∧ Hid (wr.ownsRow (w.heap.size + 1) 2 1 (.slice q k c) k (ints ((args.take k).map (nArg F o)))) ∧ Hid (Below (w.heap.size + 1) (w.alloc A) wr)) (fun _ i _ => m - (intOf i).toNat)
  case atStart => exact ⟨0, none, 0, Nat.zero_le _, rfl, rfl, World.ownsRow_nil _ _ _ _, by rw [HA.out]; exact Below.refl _ _⟩
  case round =>
    obtain ⟨k, q, cc, hkm, rfl, rfl, HO, HB⟩ := hrel
    have hbw : Below w.heap.size w wr := (al_bel w A).trans (HB.out.mono (by omega))
    have hsz : w.heap.size + 1 ≤ wr.heap.size := by have := HB.out.size; simpa using this
    by_cases hlt : k < m
    · have hkl2 : k < args.length := by have := HM.out; omega
      obtain ⟨x, hx⟩ : ∃ x, args[k]? = some x := ⟨args[k], List.getElem?_eq_getElem hkl2⟩
      obtain ⟨ga, oa, rfl, hcell⟩ : ∃ g o, qa = some ⟨g, o, none⟩ ∧ ∀ j x, args[j]? = some x → X.w0.cell? ⟨g, o + j, none⟩ = some (.int .i64 x) := by
        rcases HAr.out.2.2.2 with h | h
        · rw [h] at hx; simp at hx
        · exact h
      have q0 := hcell k x hx
      have q1 : wr.cell? ⟨ga, oa + k, none⟩ = some (.int .i64 x) := by
        rw [← q0]
        exact World.cell?_of_block (a := ⟨ga, oa + k, none⟩) ((HX.out.1.wm.below hbw).kp ga (cell_lt q0))
      obtain ⟨t, ht⟩ : ∃ t, G.types[k]? = some t := ⟨G.types[k]'(by have := HAr.out.1; omega), List.getElem?_eq_getElem _⟩
      have hb := HAr.out.2.1 k x t hx ht
      obtain ⟨ix, rfl, u1, u2, _, _⟩ := (HX.out.1.ow.on (E := NoE) (Wz.below hbw) (fun e => e)).get hb
      obtain ⟨nv, hnv⟩ : ∃ nv, rpV t (pl o (ix : Int)) = nv := ⟨_, rfl⟩
      rw [hnv] at u2
      obtain ⟨zs, hzs⟩ : ∃ zs, ints ((args.take k).map (nArg F o)) = zs := ⟨_, rfl⟩
      have HTk : Hid (ints ((args.take (k + 1)).map (nArg F o)) = zs ++ [.int .i64 nv]) := by
        show _ = _
        rw [← hzs]
        rw [take_snoc hx, List.map_append, show ints (List.map (nArg F o) (args.take k) ++ List.map (nArg F o) [(ix : Int)]) = ints (List.map (nArg F o) (args.take k)) ++ ints (List.map (nArg F o) [(ix : Int)]) by simp [ints]]
        congr 1
        show [Value.int .i64 (nArg F o (ix : Int))] = _
        rw [nArg_is hb, hnv]
      have hxk : ix < kl := by have := HK.out; omega
      have hl8 : (ix : Int) < (kl : Int) := by omega
      obtain ⟨i0, hi0, hz0, hs0, hb0⟩ := info_parts info2
      have HO3 : Hid ((wr.alloc (.cells #[.int .i64 nv] 2)).ownsRow (w.heap.size + 1) 2 1 (.slice q k cc) k zs) := by rw [← hzs]; exact HO.out.alloc _
      have HN3 : Hid (∀ (i : Nat) (x : Value), ([.int .i64 nv] : List Value)[i]? = some x → (wr.alloc (.cells #[.int .i64 nv] 2)).cell? ((⟨wr.heap.size, 0, none⟩ : Addr).add i) = some x) := World.news_of_block (cs := #[.int .i64 nv]) (t := 2) (fr := (0, 0)) (heap_alloc_last wr _)
      have H13 : Hid (∀ u ∈ ([.int .i64 nv] : List Value), u.oneCell' = true) := fun u hu => by simp at hu; subst hu; rfl
      have HZ3 : Hid (w.heap.size + 1 ≤ (wr.alloc (.cells #[.int .i64 nv] 2)).heap.size) := by show _ ≤ _; simp; omega
      have HB3 : Hid (Below (w.heap.size + 1) (w.alloc A) (wr.alloc (.cells #[.int .i64 nv] 2))) := HB.out.trans ((al_bel wr _).mono (by omega))
      clear hx hcell q0 ht hb hnv hbw hkl2 hzs
      go_wp2_with (at_builtin; refine wpList_append_lies _ rfl _ _ 23 rfl (w.heap.size + 1) 2 i0 _ 1 8 Tryd.underlying23 hi0 hz0 hs0 hb0 rfl (by decide) _ k _ rfl HO3.out ⟨wr.heap.size, 0, none⟩ 1 1 [.int .i64 nv] rfl rfl HN3.out H13.out (by decide) (by unfold maxLen; omega) (by omega) HZ3.out (wr.heap.size + 1) (by simp) ?_)
      intro g5 cap5 w5 hown5 hgrow5 hg5 hlt5
      have HR : Hid (w5.ownsRow (w.heap.size + 1) 2 1 (.slice (some ⟨g5, 0, none⟩) (k + 1) cap5) (k + 1) (ints ((args.take (k + 1)).map (nArg F o)))) := by show World.ownsRow _ _ _ _ _ _ _; rw [HTk.out]; exact hown5
      have HB5 : Hid (Below (w.heap.size + 1) (w.alloc A) w5) := grow_bel (by simp) HB3.out hgrow5 (fun i hi => (HO.out.lt i hi).1)
      clear hown5 hgrow5 hg5 hlt5
      go_wp2
      exact ⟨⟨k + 1, some ⟨g5, 0, none⟩, cap5, by omega, by go_num, rfl, HR, HB5⟩, by simp [intOf]; omega⟩
    · have hke : m = k := by omega
      subst hke
      have HCl2 : Hid (∀ W, W = wr.drew → Calls Tryd.prog 33 #[ptr X.P, .slice ql ll cl, .string y8, .slice q m cc] W (fun e w2 => ∃ z, e = .returned (.int .i64 z) ∧ CdP X wr.drew r d (callG (fsL L) g d G (theirs G o args) r.s) (.returned (.int .i64 z)) w2)) := fun W hW => by
        subst hW
        have h1 := HO.out
        rw [← HM.out, List.take_length] at h1
        have := HCl.out wr q cc HB.out h1
        rw [HM.out] at this
        exact this
      have hbx : wr.heap[w.heap.size]? = some (.cells #[.int .i64 7, .int .i64 (j : Int), .int .i64 a, .int .i64 b, .int .i64 c, .int .i64 n, .string y6, .int .i64 label, .string y8, .slice qa m ca] 58) := by
        rw [HB.out.block _ (by omega), ← HA.out]
        exact heap_alloc_last _ _
      have b1 := cell_at (i := 1) hbx rfl
      have b8 := cell_at (i := 8) hbx rfl
      have b1' : wr.drew.cell? ⟨w.heap.size, 1, none⟩ = some (.int .i64 (j : Int)) := b1
      have b8' : wr.drew.cell? ⟨w.heap.size, 8, none⟩ = some (.string y8) := b8
      clear hbx hbw hlt hkm
      go_wp2_with fail
      go_region_with (go_at_call 33; refine (HCl2.out _ rfl).mono ?_; rintro e w2 ⟨z, rfl, hp⟩; obtain ⟨z1, ⟨zv, z2⟩, z3, z4⟩ := HFi.out wr w2 z HB.out hp; have HXX : Hid (GG (.returned (.tuple #[])) (w2.setCell ⟨ob, j, none⟩ (.int .i64 z))) := z4; clear z4 hp)
      all_goals
        go_wp2
        go_end0
        exact HXX.out
end
end Go.Proofs.YtjmbjpimabnohaaDoor.Mid
