/- PA QB -/
import Derived.Test.YtnfhpdbbfejioaaGreatDoorE31
namespace Go.Proofs.YtnfhpdbbfejioaaGreatDoor.Mid
set_option linter.unusedVariables false
set_option linter.unusedSimpArgs false
set_option maxRecDepth 100000
set_option maxHeartbeats 16000000
open Go Go.RowKit
theorem st_6 {F : Lf} (hV : VaC F.V) {R : Nat → Nat} {w : World} {P mb : Nat} {s s' : Wr} {g o : Nat} {yn : ByteArray} {ix v th el : Tr} {vi vv : Option Addr} {qt : Option Addr} {nt ct : Nat} {qe : Option Addr} {ne ce' : Nat} {u : Unit} (h : WrM R w P mb s) (hx : ∀ W, Below (P - 1) w W → SmO P W g o 6 yn ix v th el vi vv qt nt ct qe ne ce') {p : Nat} {s1 : Wr} (e1 : F.V v s = some (p, s1)) (e2 : qU { ms0 with code := 8, a := (p : Int) } s1 = some (u, s')) :
    Calls Tryz.prog 108 #[ptr P, .pointer (some ⟨g, o, none⟩)] w (LuP P R mb w s') := by
  have HX : Hid (∀ W, Below (P - 1) w W → SmO P W g o 6 yn ix v th el vi vv qt nt ct qe ne ce') := hx
  obtain ⟨G, hG⟩ : ∃ G, G = LuP P R mb w s' := ⟨_, rfl⟩
  have HG : Hid (G = LuP P R mb w s') := hG
  have hO := hx w (Below.refl _ _)
  have c0 := hO.c0
  have c2 := hO.c2
  have c3 := hO.c3
  have c4 := hO.c4
  have hxv := hO.xv
  have hxi := hO.xi
  rw [← hG]
  clear hO hx hG
  have HC1 : Hid (Calls Tryz.prog 163 #[ptr P, .pointer vv] w (LnP P R mb w (p : Int) s1)) := hV R w P mb s s1 v _ p h hxv e1
  clear h hxv hxi e1 c2 c3
  go_enter Tryz.func108, Tryz.ntmps108
  go_wp2_with (go_at_call 163; fail)
  clear c0 c4
  refine HC1.out.mono ?_
  rintro e w1 ⟨rfl, R1, hm1, hl1⟩
  have HL1 : Hid (Lw P R R1 w w1) := hl1
  have HC2 : Hid (Calls Tryz.prog 70 #[ptr P, .agg #[.int .i64 8, .int .i64 0, .int .i64 (p : Int), .int .i64 0, .int .i64 0, .int .i64 0, .string ⟨#[]⟩, .int .i64 0, .string ⟨#[]⟩, .slice none 0 0]] w1 (LuP P R1 mb w1 s')) := add_y 8 0 (p : Int) 0 0 0 ⟨#[]⟩ 0 ⟨#[]⟩ [] none 0 0 hm1 (ArAt.none _ _) e2
  clear hm1 hl1 HC1
  go_wp2_with (go_at_call 70; fail)
  refine HC2.out.mono ?_
  rintro e w2 ⟨rfl, R2, hm2, hl2⟩
  have HE : Hid (G (.returned (.tuple #[])) w2) := by show G _ _; rw [HG.out]; exact ⟨rfl, R2, hm2, HL1.out.trans hl2⟩
  clear hm2 hl2
  go_wp2
  go_end0
  exact HE.out
theorem st_7 {F : Lf} (hV : VaC F.V) {R : Nat → Nat} {w : World} {P mb : Nat} {s s' : Wr} {g o : Nat} {yn : ByteArray} {ix v th el : Tr} {vi vv : Option Addr} {qt : Option Addr} {nt ct : Nat} {qe : Option Addr} {ne ce' : Nat} {u : Unit} (h : WrM R w P mb s) (hx : ∀ W, Below (P - 1) w W → SmO P W g o 7 yn ix v th el vi vv qt nt ct qe ne ce') {p : Nat} {s1 : Wr} (e1 : F.V v s = some (p, s1)) (e2 : qU { ms0 with code := 13, a := (p : Int) } s1 = some (u, s')) :
    Calls Tryz.prog 108 #[ptr P, .pointer (some ⟨g, o, none⟩)] w (LuP P R mb w s') := by
  have HX : Hid (∀ W, Below (P - 1) w W → SmO P W g o 7 yn ix v th el vi vv qt nt ct qe ne ce') := hx
  obtain ⟨G, hG⟩ : ∃ G, G = LuP P R mb w s' := ⟨_, rfl⟩
  have HG : Hid (G = LuP P R mb w s') := hG
  have hO := hx w (Below.refl _ _)
  have c0 := hO.c0
  have c2 := hO.c2
  have c3 := hO.c3
  have c4 := hO.c4
  have hxv := hO.xv
  have hxi := hO.xi
  rw [← hG]
  clear hO hx hG
  have HC1 : Hid (Calls Tryz.prog 163 #[ptr P, .pointer vv] w (LnP P R mb w (p : Int) s1)) := hV R w P mb s s1 v _ p h hxv e1
  clear h hxv hxi e1 c2 c3
  go_enter Tryz.func108, Tryz.ntmps108
  go_wp2_with (go_at_call 163; fail)
  clear c0 c4
  refine HC1.out.mono ?_
  rintro e w1 ⟨rfl, R1, hm1, hl1⟩
  have HL1 : Hid (Lw P R R1 w w1) := hl1
  have HC2 : Hid (Calls Tryz.prog 70 #[ptr P, .agg #[.int .i64 13, .int .i64 0, .int .i64 (p : Int), .int .i64 0, .int .i64 0, .int .i64 0, .string ⟨#[]⟩, .int .i64 0, .string ⟨#[]⟩, .slice none 0 0]] w1 (LuP P R1 mb w1 s')) := add_y 13 0 (p : Int) 0 0 0 ⟨#[]⟩ 0 ⟨#[]⟩ [] none 0 0 hm1 (ArAt.none _ _) e2
  clear hm1 hl1 HC1
  go_wp2_with (go_at_call 70; fail)
  refine HC2.out.mono ?_
  rintro e w2 ⟨rfl, R2, hm2, hl2⟩
  have HE : Hid (G (.returned (.tuple #[])) w2) := by show G _ _; rw [HG.out]; exact ⟨rfl, R2, hm2, HL1.out.trans hl2⟩
  clear hm2 hl2
  go_wp2
  go_end0
  exact HE.out
theorem st_8 {F : Lf} (hV : VaC F.V) {R : Nat → Nat} {w : World} {P mb : Nat} {s s' : Wr} {g o : Nat} {yn : ByteArray} {ix v th el : Tr} {vi vv : Option Addr} {qt : Option Addr} {nt ct : Nat} {qe : Option Addr} {ne ce' : Nat} {u : Unit} (h : WrM R w P mb s) (hx : ∀ W, Below (P - 1) w W → SmO P W g o 8 yn ix v th el vi vv qt nt ct qe ne ce') {p : Nat} (e1 : F.V v s = some (p, s')) :
    Calls Tryz.prog 108 #[ptr P, .pointer (some ⟨g, o, none⟩)] w (LuP P R mb w s') := by
  have HX : Hid (∀ W, Below (P - 1) w W → SmO P W g o 8 yn ix v th el vi vv qt nt ct qe ne ce') := hx
  obtain ⟨G, hG⟩ : ∃ G, G = LuP P R mb w s' := ⟨_, rfl⟩
  have HG : Hid (G = LuP P R mb w s') := hG
  have hO := hx w (Below.refl _ _)
  have c0 := hO.c0
  have c2 := hO.c2
  have c3 := hO.c3
  have c4 := hO.c4
  have hxv := hO.xv
  have hxi := hO.xi
  rw [← hG]
  clear hO hx hG
  have HC1 : Hid (Calls Tryz.prog 163 #[ptr P, .pointer vv] w (LnP P R mb w (p : Int) s')) := hV R w P mb s s' v _ p h hxv e1
  have HL0 : Hid (Lw P R R w w) := Lw.refl _ _ _
  clear h hxv hxi e1 c2 c3
  go_enter Tryz.func108, Tryz.ntmps108
  go_wp2_with (go_at_call 163; fail)
  clear c0 c4
  refine HC1.out.mono ?_
  rintro e w1 ⟨rfl, R1, hm1, hl1⟩
  have HE : Hid (G (.returned (.tuple #[])) w1) := by show G _ _; rw [HG.out]; exact ⟨rfl, R1, hm1, HL0.out.trans hl1⟩
  clear hm1 hl1
  go_wp2
  go_end0
  exact HE.out
theorem st_4 {R : Nat → Nat} {w : World} {P mb : Nat} {s s' : Wr} {g o : Nat} {yn : ByteArray} {ix v th el : Tr} {vi vv : Option Addr} {qt : Option Addr} {nt ct : Nat} {qe : Option Addr} {ne ce' : Nat} {u : Unit} (h : WrM R w P mb s) (hx : ∀ W, Below (P - 1) w W → SmO P W g o 4 yn ix v th el vi vv qt nt ct qe ne ce') (hC : Calls Tryz.prog 164 #[ptr P, .pointer (some ⟨g, o, none⟩)] w (LuP P R mb w s')) :
    Calls Tryz.prog 108 #[ptr P, .pointer (some ⟨g, o, none⟩)] w (LuP P R mb w s') := by
  have HX : Hid (∀ W, Below (P - 1) w W → SmO P W g o 4 yn ix v th el vi vv qt nt ct qe ne ce') := hx
  obtain ⟨G, hG⟩ : ∃ G, G = LuP P R mb w s' := ⟨_, rfl⟩
  have HG : Hid (G = LuP P R mb w s') := hG
  have hO := hx w (Below.refl _ _)
  have c0 := hO.c0
  have c2 := hO.c2
  have c3 := hO.c3
  have c4 := hO.c4
  have hxv := hO.xv
  have hxi := hO.xi
  rw [← hG]
  clear hO hx hG
  have HC1 : Hid (Calls Tryz.prog 164 #[ptr P, .pointer (some ⟨g, o, none⟩)] w (LuP P R mb w s')) := hC
  have HL0 : Hid (Lw P R R w w) := Lw.refl _ _ _
  clear h hxv hxi hC c2 c3 c4
  go_enter Tryz.func108, Tryz.ntmps108
  go_wp2_with (go_at_call 164; fail)
  clear c0
  refine HC1.out.mono ?_
  rintro e w1 ⟨rfl, R1, hm1, hl1⟩
  have HE : Hid (G (.returned (.tuple #[])) w1) := by show G _ _; rw [HG.out]; exact ⟨rfl, R1, hm1, HL0.out.trans hl1⟩
  clear hm1 hl1
  go_wp2
  go_end0
  exact HE.out
theorem st_5 {R : Nat → Nat} {w : World} {P mb : Nat} {s s' : Wr} {g o : Nat} {yn : ByteArray} {ix v th el : Tr} {vi vv : Option Addr} {qt : Option Addr} {nt ct : Nat} {qe : Option Addr} {ne ce' : Nat} {u : Unit} (h : WrM R w P mb s) (hx : ∀ W, Below (P - 1) w W → SmO P W g o 5 yn ix v th el vi vv qt nt ct qe ne ce') (hC : Calls Tryz.prog 165 #[ptr P, .pointer (some ⟨g, o, none⟩)] w (LuP P R mb w s')) :
    Calls Tryz.prog 108 #[ptr P, .pointer (some ⟨g, o, none⟩)] w (LuP P R mb w s') := by
  have HX : Hid (∀ W, Below (P - 1) w W → SmO P W g o 5 yn ix v th el vi vv qt nt ct qe ne ce') := hx
  obtain ⟨G, hG⟩ : ∃ G, G = LuP P R mb w s' := ⟨_, rfl⟩
  have HG : Hid (G = LuP P R mb w s') := hG
  have hO := hx w (Below.refl _ _)
  have c0 := hO.c0
  have c2 := hO.c2
  have c3 := hO.c3
  have c4 := hO.c4
  have hxv := hO.xv
  have hxi := hO.xi
  rw [← hG]
  clear hO hx hG
  have HC1 : Hid (Calls Tryz.prog 165 #[ptr P, .pointer (some ⟨g, o, none⟩)] w (LuP P R mb w s')) := hC
  have HL0 : Hid (Lw P R R w w) := Lw.refl _ _ _
  clear h hxv hxi hC c2 c3 c4
  go_enter Tryz.func108, Tryz.ntmps108
  go_wp2_with (go_at_call 165; fail)
  clear c0
  refine HC1.out.mono ?_
  rintro e w1 ⟨rfl, R1, hm1, hl1⟩
  have HE : Hid (G (.returned (.tuple #[])) w1) := by show G _ _; rw [HG.out]; exact ⟨rfl, R1, hm1, HL0.out.trans hl1⟩
  clear hm1 hl1
  go_wp2
  go_end0
  exact HE.out
theorem st_no {c : Int} {R : Nat → Nat} {w : World} {P mb : Nat} {s s' : Wr} {g o : Nat} {yn : ByteArray} {ix v th el : Tr} {vi vv : Option Addr} {qt : Option Addr} {nt ct : Nat} {qe : Option Addr} {ne ce' : Nat} (h : WrM R w P mb s) (hx : ∀ W, Below (P - 1) w W → SmO P W g o c yn ix v th el vi vv qt nt ct qe ne ce') (hc : ∀ k, 1 ≤ k → k ≤ 8 → c ≠ k) (hs : s' = s) :
    Calls Tryz.prog 108 #[ptr P, .pointer (some ⟨g, o, none⟩)] w (LuP P R mb w s') := by
  have HX : Hid (∀ W, Below (P - 1) w W → SmO P W g o c yn ix v th el vi vv qt nt ct qe ne ce') := hx
  obtain ⟨G, hG⟩ : ∃ G, G = LuP P R mb w s' := ⟨_, rfl⟩
  have HG : Hid (G = LuP P R mb w s') := hG
  have hO := hx w (Below.refl _ _)
  have c0 := hO.c0
  have c2 := hO.c2
  have c3 := hO.c3
  have c4 := hO.c4
  have hxv := hO.xv
  have hxi := hO.xi
  rw [← hG]
  clear hO hx hG
  have HE : Hid (G (.returned (.tuple #[])) w) := by show G _ _; rw [HG.out, hs]; exact ⟨rfl, R, h, Lw.refl _ _ _⟩
  have t1 : ((c : Int) == 1) = false := by simpa using hc 1 (by omega) (by omega)
  have t2 : ((c : Int) == 2) = false := by simpa using hc 2 (by omega) (by omega)
  have t3 : ((c : Int) == 3) = false := by simpa using hc 3 (by omega) (by omega)
  have t4 : ((c : Int) == 4) = false := by simpa using hc 4 (by omega) (by omega)
  have t5 : ((c : Int) == 5) = false := by simpa using hc 5 (by omega) (by omega)
  have t6 : ((c : Int) == 6) = false := by simpa using hc 6 (by omega) (by omega)
  have t7 : ((c : Int) == 7) = false := by simpa using hc 7 (by omega) (by omega)
  have t8 : ((c : Int) == 8) = false := by simpa using hc 8 (by omega) (by omega)
  clear h hxv hxi hc hs c2 c3 c4
  go_enter Tryz.func108, Tryz.ntmps108
  go_wp2
  go_end0
  exact HE.out
theorem kn_into {F : Lf} (h : KnF F) (p : Nat) (t : Tr) : Kn (intoL F p t) := zH (h.L _) fun _ => kn_fin _ _
theorem st_1 {F : Lf} (hL : LaC 212 F.L) {R : Nat → Nat} {w : World} {P mb : Nat} {s s' : Wr} {g o : Nat} {yn : ByteArray} {ix v th el : Tr} {vi vv : Option Addr} {qt : Option Addr} {nt ct : Nat} {qe : Option Addr} {ne ce' : Nat} {u : Unit} (h : WrM R w P mb s) (hx : ∀ W, Below (P - 1) w W → SmO P W g o 1 yn ix v th el vi vv qt nt ct qe ne ce') {nm : By} (hy : yn = ⟨nm.toArray⟩) {k : Int} {p q : Nat} {s1 s2 : Wr} (e1 : kindT v s = some (k, s)) (e2 : placeL k s = some (p, s1)) (e3 : intoL F p v s1 = some (q, s2)) (e4 : bindL nm p s2 = some (u, s')) :
    Calls Tryz.prog 108 #[ptr P, .pointer (some ⟨g, o, none⟩)] w (LuP P R mb w s') := by
  have HX : Hid (∀ W, Below (P - 1) w W → SmO P W g o 1 yn ix v th el vi vv qt nt ct qe ne ce') := hx
  obtain ⟨G, hG⟩ : ∃ G, G = LuP P R mb w s' := ⟨_, rfl⟩
  have HG : Hid (G = LuP P R mb w s') := hG
  have hO := hx w (Below.refl _ _)
  have c0 := hO.c0
  have c2 := hO.c2
  have c3 := hO.c3
  have c4 := hO.c4
  have hxv := hO.xv
  have hxi := hO.xi
  rw [← hG]
  clear hO hx hG
  have HC1 : Hid (Calls Tryz.prog 161 #[ptr P, .pointer vv] w (LnP P R mb w k s)) := (kindT_any h hxv e1).1
  clear h hxv hxi e1 c3
  go_enter Tryz.func108, Tryz.ntmps108
  go_wp2_with (go_at_call 161; fail)
  clear c0 c4 c2
  refine HC1.out.mono ?_
  rintro e w1 ⟨rfl, R1, hm1, hl1⟩
  have HL1 : Hid (Lw P R R1 w w1) := hl1
  have HC2 : Hid (Calls Tryz.prog 68 #[ptr P, .int .i64 k] w1 (LnP P R1 mb w1 (p : Int) s1)) := place_any hm1 e2
  clear hm1 hl1 HC1
  go_wp2_with (go_at_call 68; fail)
  refine HC2.out.mono ?_
  rintro e w2 ⟨rfl, R2, hm2, hl2⟩
  have HL2 : Hid (Lw P R R2 w w2) := HL1.out.trans hl2
  have hO := HX.out w2 HL2.out.bel
  have c4 := hO.c4
  have HC3 : Hid (Calls Tryz.prog 162 #[ptr P, .int .i64 (p : Int), .pointer vv] w2 (LuP P R2 mb w2 s2)) := into_of hL hm2 hO.xv e3
  clear hm2 hl2 HC2 hO
  go_wp2_with (go_at_call 162; fail)
  clear c4
  refine HC3.out.mono ?_
  rintro e w3 ⟨rfl, R3, hm3, hl3⟩
  have HL3 : Hid (Lw P R R3 w w3) := HL2.out.trans hl3
  have c2 := (HX.out w3 HL3.out.bel).c2
  obtain ⟨hn, hxl, hp, rfl⟩ := bindL_some e4
  obtain ⟨tv, sv, v1, v2, hm3⟩ := hm3
  have d2 : w3.cell? ⟨P, 2, none⟩ = some (.map (some mb)) := z_ (i := 2) hm3.blk rfl
  have hmd : Wc R3 w3.drew P mb tv sv v1 v2 s2 := hm3.on (fun _ _ => rfl) (zl _ _)
  obtain ⟨w4, q4, hm4, hl4⟩ := hmd.bind nm p hxl hn hp
  rw [← hy] at q4
  have HE : Hid (G (.returned (.tuple #[])) w4) := by
    show G _ _
    rw [HG.out]
    exact ⟨rfl, R3, ⟨_, _, _, _, hm4⟩, (HL3.out.trans ⟨zl _ _, fun _ _ => rfl, fun _ _ _ => rfl⟩).trans hl4⟩
  clear hm3 hl3 HC3 hmd hm4 hl4 hy
  go_wp2_with fail
  go_region
  all_goals
    go_wp2
    go_end0
    exact HE.out
theorem st_2 {F : Lf} (hL : LaC 212 F.L) (hK : KnF F) {R : Nat → Nat} {w : World} {P mb : Nat} {s s' : Wr} {g o : Nat} {yn : ByteArray} {ix v th el : Tr} {vi vv : Option Addr} {qt : Option Addr} {nt ct : Nat} {qe : Option Addr} {ne ce' : Nat} {u : Unit} (h : WrM R w P mb s) (hx : ∀ W, Below (P - 1) w W → SmO P W g o 2 yn ix v th el vi vv qt nt ct qe ne ce') {nm : By} (hy : yn = ⟨nm.toArray⟩) {p q : Nat} (e1 : nameL nm s = some (p, s)) (e2 : intoL F p v s = some (q, s')) :
    Calls Tryz.prog 108 #[ptr P, .pointer (some ⟨g, o, none⟩)] w (LuP P R mb w s') := by
  have HX : Hid (∀ W, Below (P - 1) w W → SmO P W g o 2 yn ix v th el vi vv qt nt ct qe ne ce') := hx
  obtain ⟨G, hG⟩ : ∃ G, G = LuP P R mb w s' := ⟨_, rfl⟩
  have HG : Hid (G = LuP P R mb w s') := hG
  have hO := hx w (Below.refl _ _)
  have c0 := hO.c0
  have c2 := hO.c2
  have c3 := hO.c3
  have c4 := hO.c4
  have hxv := hO.xv
  have hxi := hO.xi
  rw [← hG]
  clear hO hx hG
  obtain ⟨hnl, rfl, -⟩ := nameL_some e1
  have hmd : WrM R w.drew P mb s := h.on (fun _ _ => rfl) (zl _ _)
  have HC1 : Hid (Calls Tryz.prog 162 #[ptr P, .int .i64 (nmG s.nm nm : Int), .pointer vv] w.drew (LuP P R mb w.drew s')) := into_of hL hmd (ex_on hxv (zl _ _)) e2
  obtain ⟨tv, sv, v1, v2, h⟩ := h
  have d2 : w.cell? ⟨P, 2, none⟩ = some (.map (some mb)) := z_ (i := 2) h.blk rfl
  have hlk := h.name nm (by omega) w.drew rfl
  rw [← hy] at hlk
  have hkn : s'.nm = s.nm := kn_into hK _ _ _ _ _ e2
  have HS1 : Hid (∀ R1 w1, WrM R1 w1 P mb s' → w1.cell? ⟨P, 2, none⟩ = some (.map (some mb)) ∧ (Instr.lookup 92 (.map (some mb)) (.string yn) false).run Tryz.prog w1 = .ok (.int .i64 (nmG s.nm nm : Int)) w1) := fun R1 w1 hm => by
    obtain ⟨_, _, _, _, hh⟩ := hm
    have := hh.name nm (by omega) w1 rfl
    rw [hkn, ← hy] at this
    exact ⟨z_ (i := 2) hh.blk rfl, this⟩
  have b2 : w.drew.cell? ⟨g, o + 2, none⟩ = some (.string yn) := c2
  have b4 : w.drew.cell? ⟨g, o + 4, none⟩ = some (.pointer vv) := c4
  have bd : w.drew.cell? ⟨P, 2, none⟩ = some (.map (some mb)) := d2
  generalize nmG s.nm nm = j at *
  clear h hxv hxi e1 e2 c3 hmd hy hnl hkn
  go_enter Tryz.func108, Tryz.ntmps108
  go_wp2_with fail
  go_region_held3 (fun w' => w'.cell? ⟨P, 2, none⟩ = some (.map (some mb)) ∧ w'.cell? ⟨g, o + 2, none⟩ = some (.string yn) ∧ w'.cell? ⟨g, o + 4, none⟩ = some (.pointer vv) ∧ (Instr.lookup 92 (.map (some mb)) (.string yn) false).run Tryz.prog w' = .ok (.int .i64 (j : Int)) w')
    (first | (go_keep; done) | ((try dsimp only); refine ⟨?_, ?_, ?_, ?_⟩ <;> first | assumption | (go_keep; done) | (go_simp; done) | (simp [*]; done)))
    (first | (go_at_call 162; refine HC1.out.mono ?_; rintro e w1 ⟨rfl, R1, hm1, hl1⟩; have k1 : w1.cell? ⟨P, 2, none⟩ = some (.map (some mb)) := HS1.out _ _ hm1 |>.1; have k2 : w1.cell? ⟨g, o + 2, none⟩ = some (.string yn) := (HX.out w1 (Below.trans (zl _ _) hl1.bel)).c2; have k4 : w1.cell? ⟨g, o + 4, none⟩ = some (.pointer vv) := (HX.out w1 (Below.trans (zl _ _) hl1.bel)).c4; have kl : (Instr.lookup 92 (.map (some mb)) (.string yn) false).run Tryz.prog w1 = .ok (.int .i64 (j : Int)) w1 := HS1.out _ _ hm1 |>.2; have HE : Hid (G (.returned (.tuple #[])) w1) := (by show G _ _; rw [HG.out]; exact ⟨rfl, R1, hm1, Lw.trans ⟨zl _ _, fun _ _ => rfl, fun _ _ _ => rfl⟩ hl1⟩); clear hm1 hl1))
  all_goals
    go_wp2
    go_end0
    exact HE.out
theorem st_3 {F : Lf} (hV : VaC F.V) (hK : KnF F) {R : Nat → Nat} {w : World} {P mb : Nat} {s s' : Wr} {g o : Nat} {yn : ByteArray} {ix v th el : Tr} {vi vv : Option Addr} {qt : Option Addr} {nt ct : Nat} {qe : Option Addr} {ne ce' : Nat} {u : Unit} (h : WrM R w P mb s) (hx : ∀ W, Below (P - 1) w W → SmO P W g o 3 yn ix v th el vi vv qt nt ct qe ne ce') {nm : By} (hy : yn = ⟨nm.toArray⟩) {i x p : Nat} {s1 s2 : Wr} (e1 : F.V ix s = some (i, s1)) (e2 : F.V v s1 = some (x, s2)) (e3 : nameL nm s2 = some (p, s2)) (e4 : qU { ms0 with code := 12, a := (p : Int), b := (i : Int), c := (x : Int) } s2 = some (u, s')) :
    Calls Tryz.prog 108 #[ptr P, .pointer (some ⟨g, o, none⟩)] w (LuP P R mb w s') := by
  have HX : Hid (∀ W, Below (P - 1) w W → SmO P W g o 3 yn ix v th el vi vv qt nt ct qe ne ce') := hx
  obtain ⟨G, hG⟩ : ∃ G, G = LuP P R mb w s' := ⟨_, rfl⟩
  have HG : Hid (G = LuP P R mb w s') := hG
  have hO := hx w (Below.refl _ _)
  have c0 := hO.c0
  have c2 := hO.c2
  have c3 := hO.c3
  have c4 := hO.c4
  have hxv := hO.xv
  have hxi := hO.xi
  rw [← hG]
  clear hO hx hG
  obtain ⟨hnl, rfl, -⟩ := nameL_some e3
  have hnm : s2.nm = s1.nm := hK.V _ _ _ _ e2
  have HC1 : Hid (Calls Tryz.prog 163 #[ptr P, .pointer vi] w (LnP P R mb w (i : Int) s1)) := hV R w P mb s s1 ix _ i h hxi e1
  clear h hxv hxi e1 c2 c4
  go_enter Tryz.func108, Tryz.ntmps108
  go_wp2_with (go_at_call 163; fail)
  clear c0 c3
  refine HC1.out.mono ?_
  rintro e w1 ⟨rfl, R1, hm1, hl1⟩
  have HL1 : Hid (Lw P R R1 w w1) := hl1
  have hO := HX.out w1 HL1.out.bel
  have c2 := hO.c2
  have c4 := hO.c4
  have hmd : WrM R1 w1.drew P mb s1 := hm1.on (fun _ _ => rfl) (zl _ _)
  have HL1d : Hid (Lw P R R1 w w1.drew) := hl1.trans ⟨zl _ _, fun _ _ => rfl, fun _ _ _ => rfl⟩
  have HC2 : Hid (Calls Tryz.prog 163 #[ptr P, .pointer vv] w1.drew (LnP P R1 mb w1.drew (x : Int) s2)) := hV R1 w1.drew P mb s1 s2 v _ x hmd (ex_on hO.xv (zl _ _)) e2
  obtain ⟨tv, sv, v1, v2, hmc⟩ := hm1
  have d2 : w1.cell? ⟨P, 2, none⟩ = some (.map (some mb)) := z_ (i := 2) hmc.blk rfl
  have hlk := hmc.name nm (by omega) w1.drew rfl
  rw [← hy, ← hnm] at hlk
  have HQ : Hid (∀ R2 w2, WrM R2 w2 P mb s2 → (Instr.lookup 92 (.map (some mb)) (.string yn) false).run Tryz.prog w2 = .ok (.int .i64 (nmG s2.nm nm : Int)) w2 ∧ w2.cell? ⟨P, 2, none⟩ = some (.map (some mb)) ∧ Calls Tryz.prog 70 #[ptr P, .agg #[.int .i64 12, .int .i64 0, .int .i64 (nmG s2.nm nm : Int), .int .i64 (i : Int), .int .i64 (x : Int), .int .i64 0, .string ⟨#[]⟩, .int .i64 0, .string ⟨#[]⟩, .slice none 0 0]] w2 (LuP P R2 mb w2 s')) := fun R2 w2 hm => by
    have hA := add_y 12 0 (nmG s2.nm nm : Int) (i : Int) (x : Int) 0 ⟨#[]⟩ 0 ⟨#[]⟩ [] none 0 0 hm (ArAt.none _ _) e4
    obtain ⟨_, _, _, _, hh⟩ := hm
    rw [hy]
    exact ⟨hh.name nm (by omega) w2 rfl, z_ (i := 2) hh.blk rfl, hA⟩
  have HS1 : Hid (∀ R3 w3 s9, s9.nm = s2.nm → WrM R3 w3 P mb s9 → w3.cell? ⟨P, 2, none⟩ = some (.map (some mb)) ∧ (Instr.lookup 92 (.map (some mb)) (.string yn) false).run Tryz.prog w3 = .ok (.int .i64 (nmG s2.nm nm : Int)) w3) := fun R3 w3 s9 e9 hm => by
    obtain ⟨_, _, _, _, hh⟩ := hm
    have := hh.name nm (by omega) w3 rfl
    rw [e9, ← hy] at this
    exact ⟨z_ (i := 2) hh.blk rfl, this⟩
  have HN4 : Hid (s'.nm = s2.nm) := kn_add _ _ _ _ e4
  have b2 : w1.drew.cell? ⟨g, o + 2, none⟩ = some (.string yn) := c2
  have b4 : w1.drew.cell? ⟨g, o + 4, none⟩ = some (.pointer vv) := c4
  have bd : w1.drew.cell? ⟨P, 2, none⟩ = some (.map (some mb)) := d2
  generalize nmG s2.nm nm = j at *
  clear hl1 HC1 hO hmd hmc hy hnl hnm e2 e3 e4
  go_wp2_with fail
  go_region_held3 (fun w' => w'.cell? ⟨P, 2, none⟩ = some (.map (some mb)) ∧ w'.cell? ⟨g, o + 2, none⟩ = some (.string yn) ∧ w'.cell? ⟨g, o + 4, none⟩ = some (.pointer vv) ∧ (Instr.lookup 92 (.map (some mb)) (.string yn) false).run Tryz.prog w' = .ok (.int .i64 (j : Int)) w')
    (first | (go_keep; done) | ((try dsimp only); refine ⟨?_, ?_, ?_, ?_⟩ <;> first | assumption | (go_keep; done) | (go_simp; done) | (simp [*]; done)))
    (first
    | (go_at_call 163; refine HC2.out.mono ?_; rintro e w2 ⟨rfl, R2, hm2, hl2⟩; have HL2 : Hid (Lw P R R2 w w2) := HL1d.out.trans hl2; have HA : Hid (Calls Tryz.prog 70 #[ptr P, .agg #[.int .i64 12, .int .i64 0, .int .i64 (j : Int), .int .i64 (i : Int), .int .i64 (x : Int), .int .i64 0, .string ⟨#[]⟩, .int .i64 0, .string ⟨#[]⟩, .slice none 0 0]] w2 (LuP P R2 mb w2 s')) := (HQ.out R2 w2 hm2).2.2; have k1 : w2.cell? ⟨P, 2, none⟩ = some (.map (some mb)) := (HS1.out _ _ _ rfl hm2).1; have k2 : w2.cell? ⟨g, o + 2, none⟩ = some (.string yn) := (HX.out w2 HL2.out.bel).c2; have k4 : w2.cell? ⟨g, o + 4, none⟩ = some (.pointer vv) := (HX.out w2 HL2.out.bel).c4; have kl : (Instr.lookup 92 (.map (some mb)) (.string yn) false).run Tryz.prog w2 = .ok (.int .i64 (j : Int)) w2 := (HS1.out _ _ _ rfl hm2).2; clear hm2 hl2)
    | (go_at_call 70; refine HA.out.mono ?_; rintro e w3 ⟨rfl, R3, hm3, hl3⟩; have m1 : w3.cell? ⟨P, 2, none⟩ = some (.map (some mb)) := (HS1.out _ _ _ HN4.out hm3).1; have m2 : w3.cell? ⟨g, o + 2, none⟩ = some (.string yn) := (HX.out w3 (HL2.out.trans hl3).bel).c2; have m4 : w3.cell? ⟨g, o + 4, none⟩ = some (.pointer vv) := (HX.out w3 (HL2.out.trans hl3).bel).c4; have ml : (Instr.lookup 92 (.map (some mb)) (.string yn) false).run Tryz.prog w3 = .ok (.int .i64 (j : Int)) w3 := (HS1.out _ _ _ HN4.out hm3).2; have HE : Hid (G (.returned (.tuple #[])) w3) := (by show G _ _; rw [HG.out]; exact ⟨rfl, R3, hm3, HL2.out.trans hl3⟩); clear hm3 hl3))
  all_goals
    go_wp2
    go_end0
    exact HE.out
theorem stmt_of {F : Lf} {S : Tr → Lm Unit} (hV : VaC F.V) (hL : LaC 212 F.L) (hU : UnC 215 F.U) (hK : KnF F) (hB : BkC S) : SmC (stmL F S) := by
  intro R w P mb s s' t g o u h hx hs
  obtain ⟨k1, k2, c, a, nm, ix, v, th, el, vi, vv, qt, nt, ct, qe, ne, ce', rfl, hO⟩ := hx.opn
  unfold stmL at hs
  simp only at hs
  split at hs
  · rename_i hc; subst hc
    obtain ⟨k, s0, e1, hs⟩ := zg hs
    obtain ⟨p, s1, e2, hs⟩ := zg hs
    obtain ⟨q, s2, e3, e4⟩ := zg hs
    obtain ⟨-, rfl⟩ := kindT_any h (hO w (Below.refl _ _)).xv e1
    exact st_1 hL h hO rfl e1 e2 e3 e4
  split at hs
  · rename_i hc; subst hc
    obtain ⟨p, s0, e1, hs⟩ := zg hs
    obtain ⟨q, s1, e2, e3⟩ := zg hs
    injection e3 with e3
    injection e3 with _ e3
    subst e3
    obtain ⟨-, -, rfl⟩ := nameL_some e1
    exact st_2 (u := u) hL hK h hO rfl e1 e2
  split at hs
  · rename_i hc; subst hc
    obtain ⟨i, s1, e1, hs⟩ := zg hs
    obtain ⟨x, s2, e2, hs⟩ := zg hs
    obtain ⟨p, s3, e3, e4⟩ := zg hs
    obtain ⟨-, -, rfl⟩ := nameL_some e3
    exact st_3 hV hK h hO rfl e1 e2 e3 e4
  split at hs
  · rename_i hc; subst hc
    exact st_4 (u := u) h hO (choice_of hU hB h hO hs)
  split at hs
  · rename_i hc; subst hc
    exact st_5 (u := u) h hO (loop_of hU hB h hO hs)
  split at hs
  · rename_i hc; subst hc
    obtain ⟨p, s1, e1, e2⟩ := zg hs
    exact st_6 hV h hO e1 e2
  split at hs
  · rename_i hc; subst hc
    obtain ⟨p, s1, e1, e2⟩ := zg hs
    exact st_7 hV h hO e1 e2
  split at hs
  · rename_i hc; subst hc
    obtain ⟨p, s1, e1, e2⟩ := zg hs
    injection e2 with e2
    injection e2 with _ e2
    subst e2
    exact st_8 (u := u) hV h hO e1
  · rename_i c1 c2 c3 c4 c5 c6 c7 c8
    injection hs with hs
    injection hs with _ hs
    refine st_no h hO (fun k h1 h2 e => ?_) hs.symm
    have : c = 1 ∨ c = 2 ∨ c = 3 ∨ c = 4 ∨ c = 5 ∨ c = 6 ∨ c = 7 ∨ c = 8 := by omega
    rcases this with e | e | e | e | e | e | e | e
    · exact c1 e
    · exact c2 e
    · exact c3 e
    · exact c4 e
    · exact c5 e
    · exact c6 e
    · exact c7 e
    · exact c8 e
theorem stm_all (G : Nat) : ∀ g, SmC (lwS (lwK G) g)
  | 0 => fun R w P mb s s' t g o u h hx hs => (by cases hs)
  | g + 1 => stmt_of (lw_all G).1 (lw_all G).2.1 (lw_all G).2.2.1 (kn_all G) (block_of' (stm_all G g))
theorem blk_all (G g : Nat) : BkC (lwS (lwK G) g) := block_of' (stm_all G g)
theorem labOf_snoc (l : List Ms) (s : Ms) (x : Int) : zJ (l ++ [s]) x = (zJ l x).or (if s.code = 6 ∧ s.label = x then some l.length else none) := by
  unfold zJ
  rw [List.findIdx?_append]
  congr 1
  by_cases h : s.code = 6 ∧ s.label = x
  · rw [if_pos h]; simp [h.1, h.2]
  · rw [if_neg h]
    have : (s.code == 6 && s.label == x) = false := by
      rw [Bool.eq_false_iff]
      intro e
      simp at e
      exact h e
    simp [this]
theorem labOf_none {l : List Ms} {x : Int} : zJ l x = none ↔ ∀ s ∈ l, ¬ (s.code = 6 ∧ s.label = x) := by
  unfold zJ
  rw [List.findIdx?_eq_none_iff]
  constructor
  · intro h s hs e
    have := h s hs
    simp [e.1, e.2] at this
  · intro h s hs
    have := h s hs
    rw [Bool.eq_false_iff]
    intro e
    simp at e
    exact this e
theorem labsOk_snoc {l : List Ms} {s : Ms} : qA (l ++ [s]) ↔ qA l ∧ (s.code = 6 → zJ l s.label = none) := by
  unfold qA
  rw [List.filter_append, List.map_append]
  by_cases h : s.code = 6
  · have e : ([s].filter (fun s => s.code == 6)).map (·.label) = [s.label] := by simp [h]
    rw [e, List.nodup_append]
    constructor
    · rintro ⟨h1, _, h3⟩
      refine ⟨h1, fun _ => labOf_none.2 fun t ht e => ?_⟩
      refine h3 t.label (List.mem_map.2 ⟨t, List.mem_filter.2 ⟨ht, by simp [e.1]⟩, rfl⟩) s.label (by simp) e.2
    · rintro ⟨h1, h2⟩
      refine ⟨h1, by simp, fun a ha b hb e => ?_⟩
      obtain ⟨t, ht, rfl⟩ := List.mem_map.1 ha
      have ht := List.mem_filter.1 ht
      simp at hb
      exact labOf_none.1 (h2 h) t ht.1 ⟨by simpa using ht.2, by rw [e, hb]⟩
  · have e : ([s].filter (fun s => s.code == 6)).map (·.label) = [] := by simp [h]
    rw [e, List.append_nil]
    exact ⟨fun a => ⟨a, fun b => absurd b h⟩, fun a => a.1⟩
theorem labsOk_take {l : List Ms} {i : Nat} (h : qA l) : qA (l.take i) := by
  unfold qA at h ⊢
  exact h.sublist (((List.take_sublist i l).filter _).map _)
theorem zY {α : Type} {l : List α} {i : Nat} {s : α} (h : l[i]? = some s) : l.take (i + 1) = l.take i ++ [s] := by
  obtain ⟨h1, rfl⟩ := List.getElem?_eq_some_iff.1 h
  exact (List.take_append_getElem h1).symm
def LbP (l : List Ms) (w : World) (e : Ending) (w' : World) : Prop :=
  Below w.heap.size w w' ∧ ((qA l ∧ e = .returned (.tuple #[.map (some w.heap.size), .bool true]) ∧ ∃ n, n ≤ l.length ∧ Mp 3 w' w.heap.size (labF l) n) ∨ (¬ qA l ∧ e = .returned (.tuple #[.map none, .bool false])))
structure LbI (l : List Ms) (w wr : World) (i : Nat) : Prop where
  bel : Below w.heap.size w wr
  mp : ∃ n, n ≤ i ∧ Mp 3 wr w.heap.size (labF (l.take i)) n
  ok : qA (l.take i)
theorem lb_put {l : List Ms} {w wr W9 : World} {i : Nat} {s : Ms} (h : LbI l w wr i) (hs : l[i]? = some s) (h6 : s.code = 6) (hn : zJ (l.take i) s.label = none) (hB : Below wr.heap.size wr W9) (hI : I64 s.label) (hi : i ≤ 1000000) :
    ∃ w9, (Instr.mapUpdate 118 (.map (some w.heap.size)) (.int .i64 s.label) (.int .i64 (i : Int))).run Tryz.prog W9 = .ok () w9 ∧ LbI l w w9 (i + 1) ∧ W9.grownBy w9 (some w.heap.size) := by
  obtain ⟨n, hn1, hm⟩ := h.mp
  have hlt := hm.lt
  have hlen : (l.take i).length = i := by have := (List.getElem?_eq_some_iff.1 hs).1; simp; omega
  obtain ⟨w9, h1, h2, h3⟩ := (hm.kept (hB.block _ hlt)).put kdI und69 (by omega) (key_i _ hI) trivial (.int .i64 (i : Int)) (g := labF (l.take (i + 1))) (by
      show (zJ (l.take (i + 1)) s.label).map _ = _
      rw [zY hs, labOf_snoc, hn, if_pos ⟨h6, rfl⟩, hlen]
      rfl) (fun y hy => by
      cases y with
      | int k x =>
        cases k <;> try rfl
        show (zJ (l.take (i + 1)) x).map _ = (zJ (l.take i) x).map _
        rw [zY hs, labOf_snoc, if_neg (fun e => hy (by rw [e.2])), Option.or_none]
      | _ => rfl)
  refine ⟨w9, h1, ⟨?_, ⟨_, ?_, h2⟩, ?_⟩, h3⟩
  · exact (h.bel.trans (hB.mono h.bel.size)).grown h3 (Nat.le_trans h.bel.size hB.size) (fun k e => by injection e with e; omega)
  · split <;> omega
  · rw [zY hs]
    exact labsOk_snoc.2 ⟨h.ok, fun _ => hn⟩
theorem lb_skip {l : List Ms} {w wr W9 : World} {i : Nat} {s : Ms} (h : LbI l w wr i) (hs : l[i]? = some s) (h6 : s.code ≠ 6) (hB : Below wr.heap.size wr W9) : LbI l w W9 (i + 1) := by
  obtain ⟨n, hn1, hm⟩ := h.mp
  have e : labF (l.take (i + 1)) = labF (l.take i) := by
    funext y
    cases y with
    | int k x =>
      cases k <;> try rfl
      show (zJ (l.take (i + 1)) x).map _ = (zJ (l.take i) x).map _
      rw [zY hs, labOf_snoc, if_neg (fun e => h6 e.1), Option.or_none]
    | _ => rfl
  refine ⟨h.bel.trans (hB.mono h.bel.size), ⟨n, by omega, ?_⟩, ?_⟩
  · rw [e]; exact hm.kept (hB.block _ hm.lt)
  · rw [zY hs]
    exact labsOk_snoc.2 ⟨h.ok, fun e => absurd e h6⟩
theorem qC (w : World) (A : Obj) : Below w.heap.size w (w.alloc A) := (Below.refl _ _).alloc (Nat.le_refl _) _
theorem labels_any (w : World) (fb fo : Nat) (F : Mf) (h : FnAt w fb fo F) : Calls Tryz.prog 76 #[.pointer (some ⟨fb, fo, none⟩)] w (LbP F.steps w) := by
  obtain ⟨q, c, h3, hc, hst⟩ := h.c3
  have HSt : Hid (F.steps = [] ∨ ∃ g p, q = some ⟨g, p, none⟩ ∧ ∀ j s, F.steps[j]? = some s → StepAt w g (p + j * 10) s) := hst
  obtain ⟨n, hn⟩ : ∃ n, n = F.steps.length := ⟨_, rfl⟩
  have HN : Hid (n = F.steps.length) := hn
  have hn6 : n ≤ 1000000 := by rw [hn]; exact h.i2.2.2
  rw [← hn] at h3 hc
  have hmm : ∀ W : World, (Instr.makeMap 118 none).run Tryz.prog W = .ok (.map (some W.heap.size)) (W.alloc (.map #[] 0)) := fun W => by simp [Instr.makeMap, go_sem]
  have h3' := zk (A := .map #[] 0) h3
  generalize hG : LbP F.steps w = G
  have HG : Hid (LbP F.steps w = G) := hG
  have HS0 : Hid (LbI F.steps w (w.alloc (.map #[] 0)) 0) := ⟨qC _ _, ⟨0, Nat.le_refl _, by
    have e : labF (F.steps.take 0) = fun _ => none := by
      funext y
      cases y with
      | int k x => cases k <;> rfl
      | _ => rfl
    rw [e]; exact Mp.made 3 w⟩, by simp [qA]⟩
  clear hG hst h hn h3
  go_enter Tryz.func76, Tryz.ntmps76
  go_wp2_with fail
  obtain ⟨W4, hW4⟩ : ∃ W4, W4 = w.alloc (.map #[] 0) := ⟨_, rfl⟩
  rw [← hW4] at HS0 ⊢
  clear hW4 h3'
  go_loopw [2, 14] (fun v2 v wr => ∃ i : Nat, i ≤ n ∧ v2 = .map (some w.heap.size) ∧ v = .int .i64 i ∧ Hid (LbI F.steps w wr i)) (fun _ v _ => n - (intOf v).toNat)
  case atStart => exact ⟨0, Nat.zero_le _, rfl, rfl, HS0⟩
  case round =>
    obtain ⟨i, hin, rfl, rfl, HI⟩ := hrel
    by_cases hlt2 : i < n
    · obtain ⟨s, hs⟩ : ∃ s, F.steps[i]? = some s := ⟨F.steps[i]'(by rw [← HN.out]; exact hlt2), List.getElem?_eq_getElem _⟩
      obtain ⟨gs, ps, rfl, hsts⟩ : ∃ g p, q = some ⟨g, p, none⟩ ∧ ∀ j s, F.steps[j]? = some s → StepAt w g (p + j * 10) s := by
        rcases HSt.out with h | h
        · rw [h] at hs; simp at hs
        · exact h
      have HSA : Hid (StepAt w gs (ps + i * 10) s) := hsts i s hs
      have kp : ∀ (o : Nat) (v : Value), w.cell? ⟨gs, o, none⟩ = some v → wr.cell? ⟨gs, o, none⟩ = some v := fun o v hv => by
        rw [HI.out.bel.cell (p := ⟨gs, o, none⟩) (zz hv)]; exact hv
      have d0 := kp _ _ HSA.out.c0
      have d1 := kp _ _ HSA.out.c1
      have d2 := kp _ _ HSA.out.c2
      have d3 := kp _ _ HSA.out.c3
      have d4 := kp _ _ HSA.out.c4
      have d5 := kp _ _ HSA.out.c5
      have d6 := kp _ _ HSA.out.c6
      have d7 := kp _ _ HSA.out.c7
      have d8 := kp _ _ HSA.out.c8
      obtain ⟨va, hva, pa, ca, rfl, _⟩ := HSA.out.c9
      have d9 := kp _ _ hva
      obtain ⟨na, hna⟩ : ∃ na, na = s.args.length := ⟨_, rfl⟩
      rw [← hna] at d9
      obtain ⟨y6, hy6⟩ : ∃ y6 : ByteArray, y6 = ⟨s.op.toArray⟩ := ⟨_, rfl⟩
      obtain ⟨y8, hy8⟩ : ∃ y8 : ByteArray, y8 = ⟨s.name.toArray⟩ := ⟨_, rfl⟩
      rw [← hy6] at d6
      rw [← hy8] at d8
      have HQ : Hid (F.steps[i]? = some s) := hs
      clear kp hs hsts hva hna hy6 hy8
      have hl9 : (i : Int) < (n : Int) := by omega
      obtain ⟨cd, hcd⟩ : ∃ cd, s.code = cd := ⟨_, rfl⟩
      obtain ⟨lb, hlb⟩ : ∃ lb, s.label = lb := ⟨_, rfl⟩
      have HC : Hid (s.code = cd ∧ s.label = lb) := ⟨hcd, hlb⟩
      rw [hcd] at d0
      rw [hlb] at d7
      obtain ⟨W7, hW7⟩ : ∃ W7, W7 = wr.alloc (.cells #[.int .i64 cd, .int .i64 s.dst, .int .i64 s.a, .int .i64 s.b, .int .i64 s.c, .int .i64 s.n, .string y6, .int .i64 lb, .string y8, .slice pa na ca] 125) := ⟨_, rfl⟩
      have HB7 : Hid (Below wr.heap.size wr W7) := by rw [hW7]; exact qC _ _
      by_cases h6 : cd = 6
      · subst h6
        cases hlk : zJ (F.steps.take i) lb with
        | none =>
          obtain ⟨w9, q1, q2, q3⟩ := lb_put HI.out HQ.out hcd (by rw [hlb]; exact hlk) HB7.out HSA.out.i1.2.2.2.2.2.2 (by omega)
          rw [hlb] at q1
          obtain ⟨m, _, hm⟩ := HI.out.mp
          have lk := (hm.kept (HB7.out.block _ hm.lt)).look2 kdI und69 (zero3 W7) (key_i lb (by rw [← hlb]; exact HSA.out.i1.2.2.2.2.2.2))
          have e1 : labF (F.steps.take i) (.int .i64 lb) = none := by show (zJ (F.steps.take i) lb).map _ = none; rw [hlk]; rfl
          rw [e1] at lk
          have lk' : (Instr.lookup 118 (.map (some w.heap.size)) (.int .i64 lb) true).run Tryz.prog W7 = .ok (.tuple #[.int .i64 0, .bool false]) W7 := lk
          rw [hW7] at q1 lk'
          have HL9 : Hid (LbI F.steps w w9 (i + 1)) := q2
          clear hm lk e1 hlk hcd hlb q2 q3 hW7 HB7
          go_wp2
          exact ⟨⟨i + 1, by omega, rfl, by go_num, HL9⟩, by simp [intOf]; omega⟩
        | some k =>
          obtain ⟨m, _, hm⟩ := HI.out.mp
          have lk := (hm.kept (HB7.out.block _ hm.lt)).look2 kdI und69 (zero3 W7) (key_i lb (by rw [← hlb]; exact HSA.out.i1.2.2.2.2.2.2))
          have e1 : labF (F.steps.take i) (.int .i64 lb) = some (.int .i64 (k : Int)) := by show (zJ (F.steps.take i) lb).map _ = _; rw [hlk]; rfl
          rw [e1] at lk
          have lk' : (Instr.lookup 118 (.map (some w.heap.size)) (.int .i64 lb) true).run Tryz.prog W7 = .ok (.tuple #[.int .i64 (k : Int), .bool true]) W7 := lk
          rw [hW7] at lk'
          have HE : Hid (G (.returned (.tuple #[.map none, .bool false])) (wr.alloc (.cells #[.int .i64 6, .int .i64 s.dst, .int .i64 s.a, .int .i64 s.b, .int .i64 s.c, .int .i64 s.n, .string y6, .int .i64 lb, .string y8, .slice pa na ca] 125))) := by
            show G _ _
            rw [← HG.out, ← hW7]
            refine ⟨HI.out.bel.trans (HB7.out.mono HI.out.bel.size), .inr ⟨fun hok => ?_, rfl⟩⟩
            have := labsOk_take (i := i + 1) hok
            rw [zY HQ.out] at this
            have := (labsOk_snoc.1 this).2 hcd
            rw [hlb, hlk] at this
            cases this
          clear hm lk e1 hlk hcd hlb hW7 HB7
          go_wp2
          exact HE.out
      · have t6 : (cd == 6) = false := by simpa using h6
        have HL9 : Hid (LbI F.steps w W7 (i + 1)) := lb_skip HI.out HQ.out (by rw [hcd]; exact h6) HB7.out
        rw [hW7] at HL9
        clear hcd hlb hW7 HB7
        go_wp2
        exact ⟨⟨i + 1, by omega, rfl, by go_num, HL9⟩, by simp [intOf]; omega⟩
    · have hin2 : i = n := by omega
      subst hin2
      have HE : Hid (G (.returned (.tuple #[.map (some w.heap.size), .bool true])) wr) := by
        show G _ _
        rw [← HG.out]
        have e : F.steps.take i = F.steps := by rw [HN.out, List.take_length]
        obtain ⟨m, hm1, hm2⟩ := HI.out.mp
        have hok := HI.out.ok
        rw [e] at hm2 hok
        exact ⟨HI.out.bel, .inl ⟨hok, rfl, m, by rw [← HN.out]; exact hm1, hm2⟩⟩
      go_wp2
      exact HE.out
end Go.Proofs.YtnfhpdbbfejioaaGreatDoor.Mid
