/- errors.As at an *api.At, walked at this seat's types; Tell of it. TreeJoins, walked. What the cards of tree share: what the walks read of package variables, out of the condition and the world's shape. What the cards of TreeBack and TreeBlanks share: what the walks read of package variables. -/
import Derived.Test.YtpakgaegckkmnaaGreatDoorMC
import Derived.LaidEql
import Derived.Stop.Asserts
import Derived.RowKitTokens
import Derived.Test.YtpakgaegckkmnaaGreatDoorRows
import Derived.ProofKit
import Derived.OpenShut
import Derived.ChangeOld
import Derived.Below
import Derived.Stop.Joined
import Derived.Stop.LaidErr
import Derived.Lib.SmallJoins
import Derived.Lib.LaidTab
import Derived.LaidSub
import Derived.LaidHandle
import Derived.Lay
import Derived.Deep.Slices
import Derived.Shelf.Vars
import Derived.SevenTiedAt
namespace Go.Proofs.YtpakgaegckkmnaaGreatDoor
set_option linter.unusedVariables false
open Go Go.RowKit Go.Extern.Stop Go.Stop Go.Extern

theorem as_valueOf90 (t : Addr) (w : World) : (ReflectliteValue.unpack (.iface 62 (.pointer (some t)))).run Tryz.prog w
    = .ok (.agg #[.pointer (some ⟨11, 62, none⟩), .pointer (some ⟨w.heap.size, 0, none⟩), .int .u64 150]) (w.alloc (.cells #[.pointer (some t)] 62)) := by kernel_rfl
theorem as_type90 (a : Addr) (w : World) : (ReflectliteValue.methodAny (ReflectliteValue.valueError "reflectlite.Value.Type" 0) (fun t _ _ _ => ReflectliteType.toType t) #[.agg #[.pointer (some ⟨11, 62, none⟩), .pointer (some a), .int .u64 150]]).run Tryz.prog w
    = .ok (.iface 115 (.agg #[.pointer (some ⟨11, 62, none⟩)])) w := by kernel_rfl
theorem as_methodKind (h : Value) (w : World) : (Go.method 334 115 (.agg #[h]) "Kind").run Tryz.prog w = .ok (142, h) w := by kernel_rfl
theorem as_kind90 (w : World) : ((ReflectliteType.abiMethod fun t => (fun a : Nat => Value.int IntKind.u8 (a : Int)) <$> Rtype.kind t) #[.pointer (some ⟨11, 62, none⟩)]).run Tryz.prog w = .ok (.int .u8 22) w := by kernel_rfl
theorem as_kind25 (w : World) : ((ReflectliteType.abiMethod fun t => (fun a : Nat => Value.int IntKind.u8 (a : Int)) <$> Rtype.kind t) #[.pointer (some ⟨11, 34, none⟩)]).run Tryz.prog w = .ok (.int .u8 2) w := by kernel_rfl
theorem as_rlm (z : Sem Value) (f : TypeId → Addr → Nat → Nat → Sem Value) (v : Value) :
    ReflectliteValue.method z f #[v] = (do match ← ReflectliteValue.parts v with | none => z | some (t, a, fl) => f t a fl (fl % 32)) := rfl
theorem as_parts90 (a : Addr) (w : World) : (ReflectliteValue.parts (.agg #[.pointer (some ⟨11, 62, none⟩), .pointer (some a), .int .u64 150])).run Tryz.prog w = .ok (some (62, a, 150)) w := by kernel_rfl
theorem as_isNil90 (a p : Addr) (W : World) (ha : W.cell? a = some (.pointer (some p))) :
    (ReflectliteValue.method (ReflectliteValue.valueError "reflectlite.Value.IsNil" 0) ReflectliteValue.isNil #[.agg #[.pointer (some ⟨11, 62, none⟩), .pointer (some a), .int .u64 150]]).run Tryz.prog W = .ok (.bool false) W := by
  rw [as_rlm]
  simp only [Sem.run_bind, as_parts90, Result.andThen]
  simp [ReflectliteValue.isNil, loadVar, isAgg, underlying, Tryz.underlying62, ha, Result.andThen]
theorem as_methodElem (h : Value) (w : World) : (Go.method 334 115 (.agg #[h]) "Elem").run Tryz.prog w = .ok (155, .agg #[h]) w := by kernel_rfl
theorem as_methodImplements (h : Value) (w : World) : (Go.method 334 115 (.agg #[h]) "Implements").run Tryz.prog w = .ok (156, .agg #[h]) w := by kernel_rfl
theorem as_methodAssignableTo (h : Value) (w : World) : (Go.method 334 115 (.agg #[h]) "AssignableTo").run Tryz.prog w = .ok (153, .agg #[h]) w := by kernel_rfl
theorem as_elem90 (w : World) : (ReflectliteType.method ReflectliteType.elem #[.agg #[.pointer (some ⟨11, 62, none⟩)]]).run Tryz.prog w = .ok (.iface 115 (.agg #[.pointer (some ⟨11, 34, none⟩)])) w := by kernel_rfl
theorem as_implements25 (w : World) : (ReflectliteType.relation "Implements" ReflectliteType.implements_ #[.agg #[.pointer (some ⟨11, 34, none⟩)], .iface 115 (.agg #[.pointer (some ⟨11, 25, none⟩)])]).run Tryz.prog w = .ok (.bool true) w := by kernel_rfl
theorem as_typeOf25 (v : Value) (w : World) : (ReflectliteType.typeOf #[.iface 34 v]).run Tryz.prog w = .ok (.iface 115 (.agg #[.pointer (some ⟨11, 34, none⟩)])) w := by kernel_rfl
theorem as_assignable25 (w : World) : (ReflectliteType.relation "AssignableTo" ReflectliteType.assignableTo #[.agg #[.pointer (some ⟨11, 34, none⟩)], .iface 115 (.agg #[.pointer (some ⟨11, 34, none⟩)])]).run Tryz.prog w = .ok (.bool true) w := by kernel_rfl
theorem as_valueOf25 (k : Int) (w : World) : (ReflectliteValue.unpack (.iface 34 (.int .i64 k))).run Tryz.prog w
    = .ok (.agg #[.pointer (some ⟨11, 34, none⟩), .pointer (some ⟨w.heap.size, 0, none⟩), .int .u64 130]) (w.alloc (.cells #[.int .i64 k] 34)) := by kernel_rfl
theorem as_elemOf90 (w : World) : (Rtype.elem? 62).run Tryz.prog w = .ok (some 34) w := by kernel_rfl
theorem as_mk25 (p : Addr) (w : World) : (ReflectliteValue.mk 34 p ReflectliteValue.flagAddr).run Tryz.prog w = .ok (.agg #[.pointer (some ⟨11, 34, none⟩), .pointer (some p), .int .u64 386]) w := by kernel_rfl
theorem as_elemV90 (a p : Addr) (W : World) (ha : W.cell? a = some (.pointer (some p))) :
    (ReflectliteValue.method (ReflectliteValue.valueError "reflectlite.Value.Elem" 0) ReflectliteValue.elem #[.agg #[.pointer (some ⟨11, 62, none⟩), .pointer (some a), .int .u64 150]]).run Tryz.prog W
      = .ok (.agg #[.pointer (some ⟨11, 34, none⟩), .pointer (some p), .int .u64 386]) W := by
  rw [as_rlm]
  simp only [Sem.run_bind, as_parts90, Result.andThen]
  simp [ReflectliteValue.elem, loadVar, isAgg, underlying, Tryz.underlying62, ha, Result.andThen, as_elemOf90, as_mk25]
theorem as_rls (v x : Value) : ReflectliteValue.set #[v, x] = (do
    let (some (dst, a, fl), some (src, b, _)) := (← ReflectliteValue.parts v, ← ReflectliteValue.parts x)
      | unsupported (.noEntry "extern/(internal/reflectlite.Value).Set.zeroValue")
    if fl / ReflectliteValue.flagAddr % 2 == 0 then unsupported (.noEntry "extern/(internal/reflectlite.Value).Set.unaddressable")
    let val ← loadVar src b
    if ← Rtype.directlyAssignable dst src then storeVar dst a val
    else if ← Rtype.implements dst src then
      if (← Rtype.kind src) == 20 then
        match val with
        | .nilIface => unsupported (.noEntry "extern/reflectlite: a nil value of one interface type handed on as a value of another")
        | _ => storeVar dst a val
      else storeVar dst a (.iface src val)
    else panicString ("reflectlite.Set: value of type " ++ (← Rtype.spelt src) ++ " is not assignable to type " ++ (← Rtype.spelt dst))
    pure (.tuple #[])) := rfl
theorem as_parts25a (a : Addr) (w : World) : (ReflectliteValue.parts (.agg #[.pointer (some ⟨11, 34, none⟩), .pointer (some a), .int .u64 386])).run Tryz.prog w = .ok (some (34, a, 386)) w := by kernel_rfl
theorem as_parts25 (a : Addr) (w : World) : (ReflectliteValue.parts (.agg #[.pointer (some ⟨11, 34, none⟩), .pointer (some a), .int .u64 130])).run Tryz.prog w = .ok (some (34, a, 130)) w := by kernel_rfl
theorem as_direct25 (w : World) : (Rtype.directlyAssignable 34 34).run Tryz.prog w = .ok true w := by kernel_rfl
theorem as_set25 (ta b : Addr) (k : Int) (old : Value) (W : World) (hb : W.cell? b = some (.int .i64 k)) (ht : W.cell? ta = some old) (hf : W.frozen? ta = false) :
    (ReflectliteValue.set #[.agg #[.pointer (some ⟨11, 34, none⟩), .pointer (some ta), .int .u64 386], .agg #[.pointer (some ⟨11, 34, none⟩), .pointer (some b), .int .u64 130]]).run Tryz.prog W
      = .ok (.tuple #[]) (W.setCell ta (.int .i64 k)) := by
  rw [as_rls]
  simp only [Sem.run_bind, as_parts25a, as_parts25, Result.andThen]
  simp [ReflectliteValue.flagAddr, loadVar, isAgg, underlying, Tryz.underlying34, hb, Result.andThen, as_direct25, storeVar, Value.cells, storeCells, Addr.add]
  rw [run_store Tryz.prog W ta _ _ (by rfl)]
  simp [ht, hf]

/-- The words of reflectlite's values at this program. -/
abbrev v90 (a : Nat) : Array Value := #[.pointer (some ⟨11, 62, none⟩), .pointer (some ⟨a, 0, none⟩), .int .u64 150]

/-- The variable errors.errorType reads as it was laid. -/
abbrev ErrT (w : World) : Prop := w.cell? ⟨0, 0, none⟩ = some (.iface 115 (.agg #[.pointer (some ⟨11, 25, none⟩)]))
theorem as_typeOf68 (v : Value) (w : World) : (ReflectliteType.typeOf #[.iface 43 v]).run Tryz.prog w = .ok (.iface 115 (.agg #[.pointer (some ⟨11, 43, none⟩)])) w := by kernel_rfl
theorem as_assignable68 (w : World) : (ReflectliteType.relation "AssignableTo" ReflectliteType.assignableTo #[.agg #[.pointer (some ⟨11, 43, none⟩)], .iface 115 (.agg #[.pointer (some ⟨11, 34, none⟩)])]).run Tryz.prog w = .ok (.bool false) w := by kernel_rfl
theorem as_noAs68 (v : Value) (xT : TypeId) (w : World) : (Instr.typeAssert (.iface 43 v) xT 120 true).run Tryz.prog w = .ok (.tuple #[.nilIface, .bool false]) w := run_typeAssert_lacksB Tryz.underlying120 (by kernel_rfl) (by kernel_rfl) v xT w
theorem as_unwrap68 (v : Value) (xT : TypeId) (w : World) : (Instr.typeAssert (.iface 43 v) xT 123 true).run Tryz.prog w = .ok (.tuple #[.iface 43 v, .bool true]) w := run_typeAssert_hasB Tryz.underlying123 (by kernel_rfl) v xT w
theorem as_methodUnwrap (p : Addr) (w : World) : (Go.method 334 43 (.pointer (some p)) "Unwrap").run Tryz.prog w = .ok (147, .pointer (some p)) w := by kernel_rfl
set_option maxHeartbeats 8000000 in
theorem as_atV (k ln : Int) (a : Nat) (t : Addr) (old : Value) (w : World) (hg : w.cell? ⟨0, 0, none⟩ = some (.iface 115 (.agg #[.pointer (some ⟨11, 25, none⟩)]))) (ht0 : w.cell? t = some old) (hf0 : w.frozen? t = false) (ha : w.heap[a]? = some (.cells #[.int .i64 k, .int .i64 ln] 78)) :
    Calls Tryz.prog 21 #[.iface 43 (.pointer (some ⟨a, 0, none⟩)), .iface 62 (.pointer (some t))] w fun ev w' => ev = .returned (.bool true) ∧ w' = ((((w.alloc (.cells #[.pointer (some t)] 62)).alloc (.cells (v90 w.heap.size) 92)).alloc (.cells (v90 w.heap.size) 92)).alloc (.cells #[.int .i64 k] 34)).setCell t (.int .i64 k) := by
  have h6 := @run_callFunc_extern Tryz.prog 33 _ (fun args => ReflectliteValue.unpack (args.getD 0 (.tuple #[]))) Tryz.func33 (by kernel_rfl) (by kernel_rfl) (by kernel_rfl) (by kernel_rfl)
  have h7 := @run_callFunc_extern Tryz.prog 34 _ (ReflectliteValue.methodAny (ReflectliteValue.valueError "reflectlite.Value.Type" 0) (fun t _ _ _ => ReflectliteType.toType t)) Tryz.func34 (by kernel_rfl) (by kernel_rfl) (by kernel_rfl) (by kernel_rfl)
  have h8 := @run_callFunc_extern Tryz.prog 35 _ (ReflectliteValue.method (ReflectliteValue.valueError "reflectlite.Value.IsNil" 0) ReflectliteValue.isNil) Tryz.func35 (by kernel_rfl) (by kernel_rfl) (by kernel_rfl) (by kernel_rfl)
  have h27 := @run_callFunc_extern Tryz.prog 142 _ (ReflectliteType.abiMethod fun t => do pure (.int .u8 (← Rtype.kind t))) Tryz.func142 (by kernel_rfl) (by kernel_rfl) (by kernel_rfl) (by kernel_rfl)
  have h37 := @run_callFunc_extern Tryz.prog 155 _ (ReflectliteType.method ReflectliteType.elem) Tryz.func155 (by kernel_rfl) (by kernel_rfl) (by kernel_rfl) (by kernel_rfl)
  have h38 := @run_callFunc_extern Tryz.prog 156 _ (ReflectliteType.relation "Implements" ReflectliteType.implements_) Tryz.func156 (by kernel_rfl) (by kernel_rfl) (by kernel_rfl) (by kernel_rfl)
  have h10 := @run_callFunc_extern Tryz.prog 53 _ ReflectliteType.typeOf Tryz.func53 (by kernel_rfl) (by kernel_rfl) (by kernel_rfl) (by kernel_rfl)
  have h35 := @run_callFunc_extern Tryz.prog 153 _ (ReflectliteType.relation "AssignableTo" ReflectliteType.assignableTo) Tryz.func153 (by kernel_rfl) (by kernel_rfl) (by kernel_rfl) (by kernel_rfl)
  have h11 := @run_callFunc_extern Tryz.prog 54 _ (ReflectliteValue.method (ReflectliteValue.valueError "reflectlite.Value.Elem" 0) ReflectliteValue.elem) Tryz.func54 (by kernel_rfl) (by kernel_rfl) (by kernel_rfl) (by kernel_rfl)
  have h12 := @run_callFunc_extern Tryz.prog 55 _ ReflectliteValue.set Tryz.func55 (by kernel_rfl) (by kernel_rfl) (by kernel_rfl) (by kernel_rfl)
  have tO := as_typeOf25
  have tO2 := as_typeOf68
  have a68 := as_assignable68
  have nA := as_noAs68
  have yU := as_unwrap68
  have mU := as_methodUnwrap
  have mA := as_methodAssignableTo
  have a25 := as_assignable25
  have v25 := as_valueOf25
  have f6 := as_valueOf90
  have f7 := as_type90
  have mK := as_methodKind
  have mE := as_methodElem
  have mI := as_methodImplements
  have k27 := as_kind90
  have k25 := as_kind25
  have e27 := as_elem90
  have i25 := as_implements25
  have n8 := as_isNil90 ⟨w.heap.size, 0, none⟩ t ((w.alloc (.cells #[.pointer (some t)] 62)).alloc (.cells (v90 w.heap.size) 92)) (by simp)
  have hlt : 0 < w.heap.size := by
    rcases Nat.lt_or_ge 0 w.heap.size with h | h
    · exact h
    · simp [World.cell?, Array.getElem?_eq_none h] at hg
  have hg2 : ((w.alloc (.cells #[.pointer (some t)] 62)).alloc (.cells (v90 w.heap.size) 92)).cell? ⟨0, 0, none⟩ = some (.iface 115 (.agg #[.pointer (some ⟨11, 25, none⟩)])) := by
    rw [World.cell?_alloc_lt _ _ ⟨0, 0, none⟩ (by simp), World.cell?_alloc_lt _ _ ⟨0, 0, none⟩ hlt]; exact hg
  have htl : t.block < w.heap.size := by
    rcases Nat.lt_or_ge t.block w.heap.size with h | h
    · exact h
    · simp [World.cell?, Array.getElem?_eq_none h] at ht0
  have el := as_elemV90 ⟨w.heap.size, 0, none⟩ t (((w.alloc (.cells #[.pointer (some t)] 62)).alloc (.cells (v90 w.heap.size) 92)).alloc (.cells (v90 w.heap.size) 92)) (by
    rw [World.cell?_alloc_lt _ _ ⟨w.heap.size, 0, none⟩ (by simp; omega), World.cell?_alloc_lt _ _ ⟨w.heap.size, 0, none⟩ (by simp), World.cell?_alloc_at _ _ _ _ rfl]; rfl)
  have st := as_set25 t ⟨w.heap.size + 1 + 1 + 1, 0, none⟩ k old ((((w.alloc (.cells #[.pointer (some t)] 62)).alloc (.cells (v90 w.heap.size) 92)).alloc (.cells (v90 w.heap.size) 92)).alloc (.cells #[.int .i64 k] 34))
    (by rw [World.cell?_alloc_at _ _ _ _ (by simp)]; rfl)
    (by rw [World.cell?_alloc_lt _ _ t (by simp; omega), World.cell?_alloc_lt _ _ t (by simp; omega), World.cell?_alloc_lt _ _ t (by simp; omega), World.cell?_alloc_lt _ _ t htl]; exact ht0)
    (by rw [World.frozen?_alloc_old _ _ t (by simp; omega), World.frozen?_alloc_old _ _ t (by simp; omega), World.frozen?_alloc_old _ _ t (by simp; omega), World.frozen?_alloc_old _ _ t (Nat.ne_of_lt htl)]; exact hf0)
  have hal : a < w.heap.size := (Array.getElem?_eq_some_iff.1 ha).1
  have ca : ((w.alloc (.cells #[.pointer (some t)] 62)).alloc (.cells (v90 w.heap.size) 92)).cell? ⟨a, 0, none⟩ = some (.int .i64 k) := by
    rw [World.cell?_alloc_lt _ _ ⟨a, 0, none⟩ (by simp; omega), World.cell?_alloc_lt _ _ ⟨a, 0, none⟩ hal, cell_of_row _ _ _ _ _ _ ha]; rfl
  have ca2 : (((w.alloc (.cells #[.pointer (some t)] 62)).alloc (.cells (v90 w.heap.size) 92)).alloc (.cells (v90 w.heap.size) 92)).cell? ⟨a, 0, none⟩ = some (.int .i64 k) := by
    rw [World.cell?_alloc_lt _ _ ⟨a, 0, none⟩ (by simp; omega)]; exact ca
  go_enter Tryz.func21, Tryz.ntmps21
  go_wp2
  refine wp_loop_rounds 2 ?_
  rw [rounds_succ]
  go_wp2
  rw [rounds_succ]
  go_wp2
  go_ret
  exact ⟨rfl, rfl⟩
set_option maxHeartbeats 2000000 in
theorem tell_at (k p : Int) (a : Nat) (w : World) (hg : ErrT w) (ha : w.heap[a]? = some (.cells #[.int .i64 k, .int .i64 p] 78)) : Calls Tryz.prog 11 #[.iface 43 (.pointer (some ⟨a, 0, none⟩))] w fun e w' => e = .returned (.int .i64 k) ∧ Below w.heap.size w w' := by
  have hlt : 0 < w.heap.size := by
    rcases Nat.lt_or_ge 0 w.heap.size with h | h
    · exact h
    · have hg0 : w.cell? ⟨0, 0, none⟩ = some (.iface 115 (.agg #[.pointer (some ⟨11, 25, none⟩)])) := hg
      simp [World.cell?, Array.getElem?_eq_none h] at hg0
  have hg' : Hid (ErrT (w.alloc (.cells #[.int .i64 0] 34))) := by
    show _ = _
    rw [World.cell?_alloc_lt _ _ ⟨0, 0, none⟩ hlt]; exact hg
  have ha' : Hid ((w.alloc (.cells #[.int .i64 0] 34)).heap[a]? = some (.cells #[.int .i64 k, .int .i64 p] 78)) := row_alloc ha _
  clear hg ha
  go_enter Tryz.func11, Tryz.ntmps11
  go_wp2_with (go_at_call 21; fail)
  refine (as_atV k p a ⟨w.heap.size, 0, none⟩ (.int .i64 0) _ hg'.out (by simp) (by simp) ha'.out).mono ?_
  rintro e w1 ⟨rfl, hw1⟩
  have HB : Hid (Below w.heap.size w w1) := by
    show Below _ _ _
    rw [hw1]
    exact Below.setCell (((((((Below.refl _ _).alloc (Nat.le_refl _) _).alloc (by simp) _).alloc (by simp; omega) _).alloc (by simp; omega) _).alloc (by simp; omega) _)) (by simp) _
  have c1 : w1.cell? ⟨w.heap.size, 0, none⟩ = some (.int .i64 k) := by
    have B : Below (w.heap.size + 1) (w.alloc (.cells #[.int .i64 0] 34)) (((((w.alloc (.cells #[.int .i64 0] 34)).alloc (.cells #[.pointer (some ⟨w.heap.size, 0, none⟩)] 62)).alloc (.cells (v90 (w.alloc (.cells #[.int .i64 0] 34)).heap.size) 92)).alloc (.cells (v90 (w.alloc (.cells #[.int .i64 0] 34)).heap.size) 92)).alloc (.cells #[.int .i64 k] 34)) :=
      ((((Below.refl _ _).alloc (by simp) _).alloc (by simp) _).alloc (by simp) _).alloc (by simp) _
    have G := (B.block w.heap.size (by omega)).trans (heap_alloc_last w _)
    rw [hw1, cell_of_row _ _ _ _ _ _ (heap_setCell_same _ _ _ _ _ _ G)]; rfl
  clear hw1
  go_wp2
  go_ret
  exact ⟨rfl, HB.out⟩
end Go.Proofs.YtpakgaegckkmnaaGreatDoor

namespace Go.Proofs.YtpakgaegckkmnaaGreatDoor
set_option linter.unusedVariables false
set_option linter.unusedSimpArgs false
open Go Go.RowKit

theorem ErrT.below {w w' : World} (h : ErrT w) (hb : Below w.heap.size w w') : ErrT w' := by
  have hlt : 0 < w.heap.size := by
    rcases Nat.lt_or_ge 0 w.heap.size with h' | h'
    · exact h'
    · have hg0 : w.cell? ⟨0, 0, none⟩ = some (.iface 115 (.agg #[.pointer (some ⟨11, 25, none⟩)])) := h
      simp [World.cell?, Array.getElem?_eq_none h'] at hg0
  show w'.cell? ⟨0, 0, none⟩ = _
  rw [hb.cell (p := ⟨0, 0, none⟩) hlt]; exact h
theorem j_app (A B : ByteArray) : (A ++ ⟨#[10]⟩ ++ B).data.toList = A.data.toList ++ 10 :: B.data.toList := by simp
theorem j_size (A B : ByteArray) : (A ++ ⟨#[10]⟩ ++ B).size = A.size + 1 + B.size := by simp only [ByteArray.size_append]; rfl
theorem j_len (A : ByteArray) : A.data.toList.length = A.size := by simp
theorem j_str (a b : By) : (ByteArray.mk a.toArray ++ ByteArray.mk b.toArray) = ByteArray.mk (a ++ b).toArray := by
  apply ByteArray.ext
  simp

set_option maxRecDepth 100000 in
set_option maxHeartbeats 4000000 in
theorem joins_any (w : World) (he : EnvW 11 w) (TC : ErrT w) (s u : ByteArray) :
    Calls Tryz.prog 5 #[.string s, .string u] w fun e w' => e = .returned (.bool true) ∧ Below w.heap.size w w' := by
  by_cases h1 : 1000 < s.size
  · have h1' : (1000 : Int) < s.size := by omega
    go_enter Tryz.func5, Tryz.ntmps5
    go_wp2
    go_ret
    exact ⟨rfl, Below.refl _ _⟩
  have h1' : ¬ (1000 : Int) < s.size := by omega
  by_cases h2 : 1000 < u.size
  · have h2' : (1000 : Int) < u.size := by omega
    go_enter Tryz.func5, Tryz.ntmps5
    go_wp2
    go_ret
    exact ⟨rfl, Below.refl _ _⟩
  have h2' : ¬ (1000 : Int) < u.size := by omega
  by_cases h3 : 1400 < s.size + u.size
  · have h3' : (1400 : Int) < (s.size : Int) + u.size := by omega
    go_enter Tryz.func5, Tryz.ntmps5
    go_wp2
    go_ret
    exact ⟨rfl, Below.refl _ _⟩
  have h3' : ¬ (1400 : Int) < (s.size : Int) + u.size := by omega
  have HD : Hid (Calls Tryz.prog 7 #[] w fun e w' => e = .returned (.bool true) ∧ Below w.heap.size w w') := parsed_any w he
  have HE : Hid (∀ w', Below w.heap.size w w' → EnvW 11 w') := fun w' hb => he.below hb
  obtain ⟨c, hc⟩ : ∃ c : ByteArray, c = s ++ ⟨#[10]⟩ ++ u := ⟨_, rfl⟩
  have HC : Hid (c.data.toList = s.data.toList ++ 10 :: u.data.toList) := by show _ = _; rw [hc]; exact j_app s u
  have HCz : Hid (c.size ≤ 1000000) := by show _ ≤ _; rw [hc, j_size]; omega
  have HZ : Hid (s.size ≤ 1000000 ∧ u.size ≤ 1000000 ∧ s.data.toList.length + u.data.toList.length ≤ 1400) := ⟨by omega, by omega, by rw [j_len, j_len]; omega⟩
  have HP3 : Hid (∀ w1, Below w.heap.size w w1 → Calls Tryz.prog 8 #[.string (s ++ ⟨#[10]⟩ ++ u)] w1 fun e w' => (∃ q n c x, e = .returned (.tuple #[.slice q n c, x])) ∧ Below w1.heap.size w1 w') := fun w1 hb => by
    rw [← hc]
    exact parse_some c w1 (he.below hb).env HCz.out
  cases hs : parseV s.data.toList with
  | error x =>
    obtain ⟨k, p⟩ := x
    have HP1 : Hid (∀ w1, Below w.heap.size w w1 → Calls Tryz.prog 8 #[.string s] w1 fun e w' => ∃ a, e = .returned (.tuple #[.slice none 0 0, .iface 43 (.pointer (some ⟨a, 0, none⟩))]) ∧ w'.heap[a]? = some (.cells #[.int .i64 k, .int .i64 (p : Int)] 78) ∧ Below w1.heap.size w1 w') := fun w1 hb => parse_none (he.below hb).env HZ.out.1 hs
    have HP2 : Hid (∀ w1, Below w.heap.size w w1 → Calls Tryz.prog 8 #[.string u] w1 fun e w' => (∃ q n c x, e = .returned (.tuple #[.slice q n c, x])) ∧ Below w1.heap.size w1 w') := fun w1 hb => parse_some u w1 (he.below hb).env HZ.out.2.1
    clear he hs hc TC
    go_enter Tryz.func5, Tryz.ntmps5
    go_wp2_with (first | (go_at_call 7; refine HD.out.mono ?_; rintro e w1 ⟨rfl, hb⟩; have HB : Hid (Below w.heap.size w w1) := hb; clear hb) | (go_at_call 8; fail))
    refine (HP1.out _ HB.out).mono ?_
    rintro e w2 ⟨a, rfl, _, hb⟩
    have HB2 : Hid (Below w.heap.size w w2) := HB.out.trans (hb.mono HB.out.size)
    clear hb
    go_wp2_with (go_at_call 8; fail)
    refine (HP2.out _ HB2.out).mono ?_
    rintro e w3 ⟨⟨q, n, c1, x, rfl⟩, hb⟩
    have HB3 : Hid (Below w.heap.size w w3) := HB2.out.trans (hb.mono HB2.out.size)
    clear hb
    go_wp2_with (go_at_call 8; fail)
    refine (HP3.out _ HB3.out).mono ?_
    rintro e w4 ⟨⟨q, n, c1, x, rfl⟩, hb⟩
    have HB4 : Hid (Below w.heap.size w w4) := HB3.out.trans (hb.mono HB3.out.size)
    clear hb
    go_wp2
    go_ret
    exact ⟨rfl, HB4.out⟩
  | ok ta =>
    obtain ⟨La, rfl, ga, la, na⟩ := parse_good (by rw [j_len]; omega) hs
    have HP1 : Hid (∀ w1, Below w.heap.size w w1 → Calls Tryz.prog 8 #[.string s] w1 fun e w' => ∃ q c, e = .returned (.tuple #[.slice q La.length c, .nilIface]) ∧ Got w' (.slice q La.length c) La ∧ Below w1.heap.size w1 w') := fun w1 hb => parse_got (he.below hb).env HZ.out.1 hs
    cases hu : parseV u.data.toList with
    | error x =>
      obtain ⟨k, p⟩ := x
      have HP2 : Hid (∀ w1, Below w.heap.size w w1 → Calls Tryz.prog 8 #[.string u] w1 fun e w' => ∃ a, e = .returned (.tuple #[.slice none 0 0, .iface 43 (.pointer (some ⟨a, 0, none⟩))]) ∧ w'.heap[a]? = some (.cells #[.int .i64 k, .int .i64 (p : Int)] 78) ∧ Below w1.heap.size w1 w') := fun w1 hb => parse_none (he.below hb).env HZ.out.2.1 hu
      clear he hs hc hu TC ga la na
      go_enter Tryz.func5, Tryz.ntmps5
      go_wp2_with (first | (go_at_call 7; refine HD.out.mono ?_; rintro e w1 ⟨rfl, hb⟩; have HB : Hid (Below w.heap.size w w1) := hb; clear hb) | (go_at_call 8; fail))
      refine (HP1.out _ HB.out).mono ?_
      rintro e w2 ⟨q, c1, rfl, _, hb⟩
      have HB2 : Hid (Below w.heap.size w w2) := HB.out.trans (hb.mono HB.out.size)
      clear hb
      go_wp2_with (go_at_call 8; fail)
      refine (HP2.out _ HB2.out).mono ?_
      rintro e w3 ⟨a, rfl, _, hb⟩
      have HB3 : Hid (Below w.heap.size w w3) := HB2.out.trans (hb.mono HB2.out.size)
      clear hb
      go_wp2_with (go_at_call 8; fail)
      refine (HP3.out _ HB3.out).mono ?_
      rintro e w4 ⟨⟨q, n, c1, x, rfl⟩, hb⟩
      have HB4 : Hid (Below w.heap.size w w4) := HB3.out.trans (hb.mono HB3.out.size)
      clear hb
      go_wp2
      go_ret
      exact ⟨rfl, HB4.out⟩
    | ok tb =>
      obtain ⟨Lb, rfl, gb, lb, nb⟩ := parse_good (by rw [j_len]; omega) hu
      have HP2 : Hid (∀ w1, Below w.heap.size w w1 → Calls Tryz.prog 8 #[.string u] w1 fun e w' => ∃ q c, e = .returned (.tuple #[.slice q Lb.length c, .nilIface]) ∧ Got w' (.slice q Lb.length c) Lb ∧ Below w1.heap.size w1 w') := fun w1 hb => parse_got (he.below hb).env HZ.out.2.1 hu
      obtain ⟨J1, J2⟩ := joins_plain HZ.out.2.2 hs hu ga gb
      rw [← HC.out] at J1 J2
      have HQa : Hid (∀ w1 v, Below w.heap.size w w1 → Got w1 v La → Calls Tryz.prog 9 #[v] w1 fun e w' => e = .returned (.string ⟨(prT La).toArray⟩) ∧ Below w1.heap.size w1 w') := fun w1 v hb hg => print_got (he.below hb) hg ga la na
      have HQb : Hid (∀ w1 v, Below w.heap.size w w1 → Got w1 v Lb → Calls Tryz.prog 9 #[v] w1 fun e w' => e = .returned (.string ⟨(prT Lb).toArray⟩) ∧ Below w1.heap.size w1 w') := fun w1 v hb hg => print_got (he.below hb) hg gb lb nb
      obtain ⟨A, hA⟩ : ∃ A, A = La.length := ⟨_, rfl⟩
      obtain ⟨B, hB⟩ : ∃ B, B = Lb.length := ⟨_, rfl⟩
      rw [← hA] at HP1 J1 J2 na
      rw [← hB] at HP2 J1 J2 nb
      by_cases h12 : 12 < A + B
      · obtain ⟨p, hp⟩ := J2 h12
        have HP4 : Hid (∀ w1, Below w.heap.size w w1 → Calls Tryz.prog 8 #[.string (s ++ ⟨#[10]⟩ ++ u)] w1 fun e w' => ∃ a, e = .returned (.tuple #[.slice none 0 0, .iface 43 (.pointer (some ⟨a, 0, none⟩))]) ∧ w'.heap[a]? = some (.cells #[.int .i64 4, .int .i64 (p : Int)] 78) ∧ Below w1.heap.size w1 w') := fun w1 hb => by
          rw [← hc]
          exact parse_none (he.below hb).env HCz.out hp
        have HT : Hid (∀ w', Below w.heap.size w w' → ErrT w') := fun w' hb => TC.below hb
        have h12' : (12 : Int) < (A : Int) + B := by omega
        clear he hs hc hu TC ga la gb lb J1 J2 hp HP3 hA hB h12
        go_enter Tryz.func5, Tryz.ntmps5
        go_wp2_with (first | (go_at_call 7; refine HD.out.mono ?_; rintro e w1 ⟨rfl, hb⟩; have HB : Hid (Below w.heap.size w w1) := hb; clear hb) | (go_at_call 8; fail))
        refine (HP1.out _ HB.out).mono ?_
        rintro e w2 ⟨q, c1, rfl, _, hb⟩
        have HB2 : Hid (Below w.heap.size w w2) := HB.out.trans (hb.mono HB.out.size)
        clear hb
        go_wp2_with (go_at_call 8; fail)
        refine (HP2.out _ HB2.out).mono ?_
        rintro e w3 ⟨q2, c2, rfl, _, hb⟩
        have HB3 : Hid (Below w.heap.size w w3) := HB2.out.trans (hb.mono HB2.out.size)
        clear hb
        go_wp2_with (go_at_call 8; fail)
        refine (HP4.out _ HB3.out).mono ?_
        rintro e w4 ⟨a, rfl, ha, hb⟩
        have HB4 : Hid (Below w.heap.size w w4) := HB3.out.trans (hb.mono HB3.out.size)
        have HA : Hid (w4.heap[a]? = some (.cells #[.int .i64 4, .int .i64 (p : Int)] 78)) := ha
        clear hb ha
        go_wp2_with (go_at_call 11; fail)
        refine (tell_at 4 p a w4 (HT.out _ HB4.out) HA.out).mono ?_
        rintro e w5 ⟨rfl, hb⟩
        have HB5 : Hid (Below w.heap.size w w5) := HB4.out.trans (hb.mono HB4.out.size)
        clear hb
        go_wp2
        go_ret
        exact ⟨rfl, HB5.out⟩
      · obtain ⟨Lc, hp, gc, epr, nc, lc⟩ := J1 (by omega)
        have HP4 : Hid (∀ w1, Below w.heap.size w w1 → Calls Tryz.prog 8 #[.string (s ++ ⟨#[10]⟩ ++ u)] w1 fun e w' => ∃ q c, e = .returned (.tuple #[.slice q Lc.length c, .nilIface]) ∧ Got w' (.slice q Lc.length c) Lc ∧ Below w1.heap.size w1 w') := fun w1 hb => by
          rw [← hc]
          exact parse_got (he.below hb).env HCz.out hp
        obtain ⟨XA, hXA⟩ : ∃ X : ByteArray, X = ⟨(prT La).toArray⟩ := ⟨_, rfl⟩
        obtain ⟨XB, hXB⟩ : ∃ X : ByteArray, X = ⟨(prT Lb).toArray⟩ := ⟨_, rfl⟩
        have zA : XA.size ≤ 150100 := by rw [hXA, ← j_len]; exact la
        have zB : XB.size ≤ 150100 := by rw [hXB, ← j_len]; exact lb
        rw [← hXA] at HQa
        rw [← hXB] at HQb
        have HQc : Hid (∀ w1 v, Below w.heap.size w w1 → Got w1 v Lc → Calls Tryz.prog 9 #[v] w1 fun e w' => e = .returned (.string (XA ++ XB)) ∧ Below w1.heap.size w1 w') := fun w1 v hb hg => by
          have := print_got (he.below hb) hg gc lc nc
          rw [epr, ← j_str, ← hXA, ← hXB] at this
          exact this
        have h12' : ¬ (12 : Int) < (A : Int) + B := by omega
        obtain ⟨C, hC⟩ : ∃ C, C = Lc.length := ⟨_, rfl⟩
        rw [← hC] at HP4
        clear he hs hc hu TC ga la gb lb J1 J2 hp HP3 hA hB h12 hXA hXB gc epr nc lc hC
        go_enter Tryz.func5, Tryz.ntmps5
        go_wp2_with (first | (go_at_call 7; refine HD.out.mono ?_; rintro e w1 ⟨rfl, hb⟩; have HB : Hid (Below w.heap.size w w1) := hb; clear hb) | (go_at_call 8; fail))
        refine (HP1.out _ HB.out).mono ?_
        rintro e w2 ⟨q, c1, rfl, hg, hb⟩
        have HB2 : Hid (Below w.heap.size w w2) := HB.out.trans (hb.mono HB.out.size)
        have HGa : Hid (Got w2 (.slice q A c1) La) := hg
        clear hb hg
        go_wp2_with (go_at_call 8; fail)
        refine (HP2.out _ HB2.out).mono ?_
        rintro e w3 ⟨q2, c2, rfl, hg, hb⟩
        have HB3 : Hid (Below w.heap.size w w3) := HB2.out.trans (hb.mono HB2.out.size)
        have HGb : Hid (Got w3 (.slice q2 B c2) Lb) := hg
        have HGa3 : Hid (Got w3 (.slice q A c1) La) := HGa.out.below hb
        clear hb hg
        go_wp2_with (go_at_call 8; fail)
        refine (HP4.out _ HB3.out).mono ?_
        rintro e w4 ⟨q4, c4, rfl, hg, hb⟩
        have HB4 : Hid (Below w.heap.size w w4) := HB3.out.trans (hb.mono HB3.out.size)
        have HGc : Hid (Got w4 (.slice q4 C c4) Lc) := hg
        have HGb4 : Hid (Got w4 (.slice q2 B c2) Lb) := HGb.out.below hb
        have HGa4 : Hid (Got w4 (.slice q A c1) La) := HGa3.out.below hb
        clear hb hg
        go_wp2_with (go_at_call 9; fail)
        refine (HQc.out _ _ HB4.out HGc.out).mono ?_
        rintro e w5 ⟨rfl, hb⟩
        have HB5 : Hid (Below w.heap.size w w5) := HB4.out.trans (hb.mono HB4.out.size)
        have HGb5 : Hid (Got w5 (.slice q2 B c2) Lb) := HGb4.out.below hb
        have HGa5 : Hid (Got w5 (.slice q A c1) La) := HGa4.out.below hb
        clear hb
        go_wp2_with (go_at_call 9; fail)
        refine (HQa.out _ _ HB5.out HGa5.out).mono ?_
        rintro e w6 ⟨rfl, hb⟩
        have HB6 : Hid (Below w.heap.size w w6) := HB5.out.trans (hb.mono HB5.out.size)
        have HGb6 : Hid (Got w6 (.slice q2 B c2) Lb) := HGb5.out.below hb
        clear hb
        go_wp2_with (go_at_call 9; fail)
        refine (HQb.out _ _ HB6.out HGb6.out).mono ?_
        rintro e w7 ⟨rfl, hb⟩
        have HB7 : Hid (Below w.heap.size w w7) := HB6.out.trans (hb.mono HB6.out.size)
        clear hb
        go_wp2
        go_ret
        exact ⟨rfl, HB7.out⟩
end Go.Proofs.YtpakgaegckkmnaaGreatDoor

namespace Go.Proofs.YtpakgaegckkmnaaGreatDoor
set_option linter.unusedVariables false
open Go Go.Deep Go.ChangeShapes Go.WideShapes Go.ChangeAt Go.WideMaps Go.WideElems Go.RowKit

section
variable {H : Type} {enc : TypeId × Value → H} {P : Program} {w : World} {base : Nat} {sp : Nat → Bool} {held : Bool}
theorem arr_at {fuel n : Nat} {t e : TypeId} {cs : List Value} {ds : List (DataW H)} {p : List MemPlace} (ht : P.underlying t = some (.array n e)) (h : DataW.trod enc P w base sp held fuel t cs = some (.agg ds, p)) (i : Nat) (hi : i < n) :
    ∃ fuel' d p', ds[i]? = some d ∧ DataW.trod enc P w base sp held fuel' e ((cs.drop (i * P.cellsOf e)).take (P.cellsOf e)) = some (d, p') := by
  obtain ⟨xs, m, rfl, hx, hl, hn, hel⟩ := DataW.trod_array ht h
  have h1 := hel i hi
  simp only [Prod.mk.injEq, DataW.agg.injEq] at hx
  have hlt : i < xs.length := by omega
  rw [List.getElem?_eq_getElem hlt] at h1
  exact ⟨m, xs[i].1, xs[i].2, by rw [hx.1]; simp [hlt], h1⟩

theorem str_at {fuel : Nat} {t : TypeId} {fs : Array Field} {cs : List Value} {ds : List (DataW H)} {p : List MemPlace} (ht : P.underlying t = some (.struct fs)) (h : DataW.trod enc P w base sp held fuel t cs = some (.agg ds, p)) (i : Nat) (f : Field) (hf : fs.toList[i]? = some f) :
    ∃ fuel' d p', ds[i]? = some d ∧ DataW.trod enc P w base sp held fuel' f.type ((cs.drop f.offset).take (P.cellsOf f.type)) = some (d, p') := by
  cases fuel with
  | zero => simp [DataW.trod] at h
  | succ m =>
    simp only [DataW.trod, ht] at h
    split at h
    · obtain ⟨xs, hm, hx⟩ := Option.map_eq_some_iff.1 h
      obtain ⟨b, hb, hb2⟩ := Lib.mapM_at hm i f hf
      simp only [Prod.mk.injEq, DataW.agg.injEq] at hx
      exact ⟨m, b.1, b.2, by rw [← hx.1]; simp [hb], hb2⟩
    · cases h

theorem int_is {fuel : Nat} {t : TypeId} {k k' : IntKind} {z : Int} {cs : List Value} {p : List MemPlace} (ht : P.underlying t = some (.int k)) (h : DataW.trod enc P w base sp held fuel t cs = some (.lit (.int k' z), p)) : cs = [.int k' z] := by
  obtain ⟨n, h1, h2, _⟩ := DataW.trod_int ht h
  simp only [Prod.mk.injEq, DataW.lit.injEq, Lit.int.injEq] at h2
  rw [h1, h2.1.1, h2.1.2]
theorem bool_is {fuel : Nat} {t : TypeId} {b : Bool} {cs : List Value} {p : List MemPlace} (ht : P.underlying t = some .bool) (h : DataW.trod enc P w base sp held fuel t cs = some (.lit (.bool b), p)) : cs = [.bool b] := by
  obtain ⟨n, h1, h2⟩ := DataW.trod_bool ht h
  simp only [Prod.mk.injEq, DataW.lit.injEq, Lit.bool.injEq] at h2
  rw [h1, h2.1]
end

theorem sub_get {cs l : List Value} {a b : Nat} (h : (cs.drop a).take b = l) (j : Nat) (v : Value) (hv : l[j]? = some v) : cs[a + j]? = some v := by
  subst h
  rw [List.getElem?_take] at hv
  split at hv
  · rw [List.getElem?_drop] at hv; exact hv
  · cases hv

section
variable {H : Type} {enc : TypeId × Value → H} {w : World} {base : Nat} {sp : Nat → Bool} {held : Bool}
theorem int_sub {fuel : Nat} {l : List Value} {t : TypeId} {k k' : IntKind} {z : Int} {a : Nat} {p : List MemPlace} (ht : Tryz.prog.underlying t = some (.int k)) (hc : Tryz.prog.cellsOf t = 1)
    (h : DataW.trod enc Tryz.prog w base sp held fuel t ((l.drop a).take (Tryz.prog.cellsOf t)) = some (.lit (.int k' z), p)) : l[a]? = some (.int k' z) := by
  have := int_is ht h
  rw [hc] at this
  exact sub_get this 0 _ rfl
end
theorem own : ownKnob Tryz.prog.godebug = none := by kernel_rfl
theorem laidOut : laidOutB Tryz.prog = true := by kernel_rfl
theorem cells3 : Tryz.prog.cellsOf 3 = 1 := by kernel_rfl
theorem cells9 : Tryz.prog.cellsOf 9 = 1 := by kernel_rfl
theorem cells154 : Tryz.prog.cellsOf 154 = 2 := by kernel_rfl
theorem cells206 : Tryz.prog.cellsOf 206 = 1 := by kernel_rfl
theorem str_one {H : Type} {enc : TypeId × Value → H} {w : World} {base : Nat} {sp : Nat → Bool} {held : Bool} {fuel : Nat} {cs : List Value} {p : List MemPlace} {a : Nat} {s : By} (h : DataW.trod enc Tryz.prog w base sp held fuel 9 ((cs.drop a).take (Tryz.prog.cellsOf 9)) = some (.lit (.string s), p)) : cs[a]? = some (str s) := by
  obtain ⟨x, h1, h2, _⟩ := DataW.trod_string Tryz.underlying9 h
  simp only [Prod.mk.injEq, DataW.lit.injEq, Lit.string.injEq] at h2
  have : x = ⟨s.toArray⟩ := by cases x with | mk d => rw [h2.1]
  rw [this] at h1
  have := sub_get h1 0 _ rfl
  simpa using this


abbrev laidR : List (String × DataW Unit) := [("math/bits.deBruijn32tab", Rows.laid_math_bits_deBruijn32tab), ("math/bits.deBruijn64tab", Rows.laid_math_bits_deBruijn64tab), ("internal/strconv.uint64pow10", Rows.laid_internal_strconv_uint64pow10), ("unicode/utf8.acceptRanges", Rows.laid_unicode_utf8_acceptRanges), ("errors.errorType", Rows.laid_errors_errorType), ("strconv.ErrRange", Rows.laid_strconv_ErrRange), ("strconv.ErrSyntax", Rows.laid_strconv_ErrSyntax), ("bloomery/tree.marks", Rows.laid_bloomery_tree_marks), ("bloomery/tree.pairs", Rows.laid_bloomery_tree_pairs), ("unicode/utf8.first", Rows.laid_unicode_utf8_first)]
abbrev laidP : List (String × DataW Unit) := [("math/bits.deBruijn32tab", Rows.laid_math_bits_deBruijn32tab), ("math/bits.deBruijn64tab", Rows.laid_math_bits_deBruijn64tab), ("internal/strconv.uint64pow10", Rows.laid_internal_strconv_uint64pow10), ("unicode/utf8.acceptRanges", Rows.laid_unicode_utf8_acceptRanges), ("strconv.ErrRange", Rows.laid_strconv_ErrRange), ("strconv.ErrSyntax", Rows.laid_strconv_ErrSyntax), ("bloomery/tree.marks", Rows.laid_bloomery_tree_marks), ("bloomery/tree.pairs", Rows.laid_bloomery_tree_pairs), ("unicode/utf8.first", Rows.laid_unicode_utf8_first)]
theorem laidR_P : laidR.filter (fun x => x.2.handleName?.isNone) = laidP := by kernel_rfl
theorem laidR_H : laidR.filter (fun x => x.2.handleName?.isSome) = [("errors.errorType", Rows.laid_errors_errorType)] := by kernel_rfl
theorem etZ : Tryz.prog.globalNamed "errors.errorType" = some 0 := by kernel_rfl
theorem rtZ : (Tryz.prog.cutTypes.find? (·.1 == "internal/reflectlite.rtype")).map (·.2) = some 115 := by kernel_rfl
theorem tsizeZ : ∃ n, Tryz.prog.types.size = n ∧ ((List.range n).filter fun t => Tryz.prog.rowNamed t [101, 114, 114, 111, 114]) = [25] := ⟨_, rfl, by kernel_rfl⟩
theorem errT_of {W : World} (h : laidMetH Tryz.prog laidR W) : ErrT W := by
  have h2 := (laidMetH_iff.1 h).2
  rw [laidR_H] at h2
  obtain ⟨name, u, ty, e1, e2, e3, e4, e5⟩ := h2 _ (List.mem_singleton.2 rfl)
  have en : name = [101, 114, 114, 111, 114] := (Option.some.inj e1).symm
  subst en
  obtain rfl := Option.some.inj (rtZ.symm.trans e2)
  obtain ⟨n, hn, oneRow⟩ := tsizeZ
  have hm : ty ∈ (List.range n).filter fun t => Tryz.prog.rowNamed t [101, 114, 114, 111, 114] := List.mem_filter.2 ⟨List.mem_range.2 (by rw [← hn]; exact e3), e4⟩
  rw [oneRow] at hm
  obtain rfl := List.mem_singleton.1 hm
  have hh : typeHandle Tryz.prog 25 = .pointer (some ⟨11, 25, none⟩) := by kernel_rfl
  rw [hh] at e5
  simpa using World.var?_cell etZ e5 0

theorem gMarks : Tryz.prog.globalNamed "bloomery/tree.marks" = some 1 := by kernel_rfl
theorem tMarks : (Tryz.prog.globals[1]?).map (·.type) = some 107 := by kernel_rfl
theorem gPairs : Tryz.prog.globalNamed "bloomery/tree.pairs" = some 2 := by kernel_rfl
theorem tPairs : (Tryz.prog.globals[2]?).map (·.type) = some 155 := by kernel_rfl
abbrev markD {H : Type} (r : By) : DataW H := .lit (.string r)
abbrev pairD {H : Type} (r : By × Nat) : DataW H := .agg [.lit (.string r.1), .lit (.int .i64 (r.2 : Int))]
theorem marksD : (Rows.laid_bloomery_tree_marks : DataW Unit) = .agg (marksL.map markD) := by kernel_rfl
theorem pairsD : (Rows.laid_bloomery_tree_pairs : DataW Unit) = .agg (pairsL.map pairD) := by kernel_rfl
theorem mark_cells {w : World} {fuel : Nat} {cs : List Value} {p : List MemPlace} (h : DataW.trod (fun _ => ()) Tryz.prog w 0 (fun _ => true) false fuel 107 cs = some (.agg (marksL.map markD), p)) (o : Nat) (v : Value) (hv : (marksL.map str)[o]? = some v) : cs[o]? = some v := by
  rw [List.getElem?_map] at hv
  obtain ⟨r, hr, rfl⟩ := Option.map_eq_some_iff.1 hv
  have hlt : o < marksL.length := (List.getElem?_eq_some_iff.1 hr).1
  obtain ⟨m, d, p', hd, h2⟩ := arr_at Tryz.underlying107 h o hlt
  rw [List.getElem?_map, hr] at hd
  simp only [Option.map_some, Option.some.injEq] at hd
  subst hd
  have := str_one h2
  rw [cells9, Nat.mul_one] at this
  exact this
theorem pair_cells {w : World} {fuel : Nat} {cs : List Value} {p : List MemPlace} (h : DataW.trod (fun _ => ()) Tryz.prog w 0 (fun _ => true) false fuel 155 cs = some (.agg (pairsL.map pairD), p)) (o : Nat) (r : By × Nat) (hr : pairsL[o]? = some r) :
    cs[o * 2]? = some (str r.1) ∧ cs[o * 2 + 1]? = some (.int .i64 (r.2 : Int)) := by
  have hlt : o < pairsL.length := (List.getElem?_eq_some_iff.1 hr).1
  obtain ⟨m, d, p', hd, h2⟩ := arr_at Tryz.underlying155 h o hlt
  rw [List.getElem?_map, hr] at hd
  simp only [Option.map_some, Option.some.injEq] at hd
  rw [cells154] at h2
  subst hd
  obtain ⟨_, d0, _, e0, h0⟩ := str_at Tryz.underlying154 h2 0 _ rfl
  obtain ⟨_, d1, _, e1, h1⟩ := str_at Tryz.underlying154 h2 1 _ rfl
  cases e0; cases e1
  have z0 := str_one h0
  have z1 := int_sub Tryz.underlying3 cells3 h1
  have y0 : cs[o * 2 + 0]? = some (str r.1) := sub_get rfl 0 _ z0
  rw [Nat.add_zero] at y0
  exact ⟨y0, sub_get rfl 1 _ z1⟩
theorem flat_get : ∀ (l : List (By × Nat)) (cs : List Value), (∀ (o : Nat) (r : By × Nat), l[o]? = some r → cs[o * 2]? = some (str r.1) ∧ cs[o * 2 + 1]? = some (.int .i64 (r.2 : Int))) → ∀ (j : Nat) (v : Value), (l.flatMap fun x => [str x.1, .int .i64 (x.2 : Int)])[j]? = some v → cs[j]? = some v
  | [], cs, h, j, v, hv => by simp at hv
  | x :: l, cs, h, 0, v, hv => by
    have := (h 0 x rfl).1
    simp at hv
    subst hv
    exact this
  | x :: l, cs, h, 1, v, hv => by
    have := (h 0 x rfl).2
    simp at hv
    subst hv
    exact this
  | x :: l, cs, h, j + 2, v, hv => by
    have ih := flat_get l (cs.drop 2) (fun o r hr => by
      have := h (o + 1) r (by simpa using hr)
      rw [List.getElem?_drop, List.getElem?_drop]
      rw [show 2 + o * 2 = (o + 1) * 2 by omega, show 2 + (o * 2 + 1) = (o + 1) * 2 + 1 by omega]
      exact this) j v (by simpa using hv)
    rw [List.getElem?_drop, Nat.add_comm] at ih
    exact ih
theorem starE : "*" ++ "errors.errorString" = "*errors.errorString" := by decide
theorem row204 (u : TypeId) (h : Tryz.prog.typeName? 3 u = some "*errors.errorString") : u = 204 :=
  typeName_ptr_named (nm := "errors.errorString") (by rw [starE]; kernel_rfl) (by kernel_rfl) (by decide) u (by rw [starE]; exact h)
theorem tSyn : (Tryz.prog.globals[9]?).map (·.type) = some 25 := by kernel_rfl
theorem tRng : (Tryz.prog.globals[10]?).map (·.type) = some 25 := by kernel_rfl
theorem tPow : (Tryz.prog.globals[4]?).map (·.type) = some 177 := by kernel_rfl

set_option maxRecDepth 100000 in
theorem env_of {W : World} (hR : laidMetH Tryz.prog laidR W) (hsh : W.ShapedOpen Tryz.prog) : EnvW 11 W := by
  have h := (laidMetH_iff.1 hR).1
  rw [laidR_P] at h
  have h1 := h.filter (fun x => x.1 == "bloomery/tree.marks")
  rw [show laidP.filter (fun x => x.1 == "bloomery/tree.marks") = [("bloomery/tree.marks", Rows.laid_bloomery_tree_marks)] by kernel_rfl] at h1
  have h2 := h.filter (fun x => x.1 == "bloomery/tree.pairs")
  rw [show laidP.filter (fun x => x.1 == "bloomery/tree.pairs") = [("bloomery/tree.pairs", Rows.laid_bloomery_tree_pairs)] by kernel_rfl] at h2
  have h3 := h.filter (fun x => x.1 == "internal/strconv.uint64pow10")
  rw [show laidP.filter (fun x => x.1 == "internal/strconv.uint64pow10") = [("internal/strconv.uint64pow10", Lib.tabData .u64 Lib.pow10Tab)] by kernel_rfl] at h3
  have h4 := h.filter (fun x => x.1 == "strconv.ErrSyntax")
  rw [show laidP.filter (fun x => x.1 == "strconv.ErrSyntax") = [("strconv.ErrSyntax", .iface "*errors.errorString" (.ptr (.agg [.lit (.string [105, 110, 118, 97, 108, 105, 100, 32, 115, 121, 110, 116, 97, 120])])))] by kernel_rfl] at h4
  have h5 := h.filter (fun x => x.1 == "strconv.ErrRange")
  rw [show laidP.filter (fun x => x.1 == "strconv.ErrRange") = [("strconv.ErrRange", .iface "*errors.errorString" (.ptr (.agg [.lit (.string [118, 97, 108, 117, 101, 32, 111, 117, 116, 32, 111, 102, 32, 114, 97, 110, 103, 101])])))] by kernel_rfl] at h5
  obtain ⟨_, ⟨g0, t0, cs0, f0, p0, q0, hg0, ht0, hv0, hd0, _, _⟩, _, _⟩ := h1
  obtain rfl := Option.some.inj (gMarks.symm.trans hg0)
  obtain rfl := Option.some.inj (tMarks.symm.trans ht0)
  rw [marksD] at hd0
  have c0 : ∀ i, W.cell? ⟨1, i, none⟩ = cs0.toList[i]? := fun i => by rw [World.var?_cell hg0 hv0 i]; simp
  obtain ⟨_, ⟨g1, t1, cs1, f1, p1, q1, hg1, ht1, hv1, hd1, _, _⟩, _, _⟩ := h2
  obtain rfl := Option.some.inj (gPairs.symm.trans hg1)
  obtain rfl := Option.some.inj (tPairs.symm.trans ht1)
  rw [pairsD] at hd1
  have c1 : ∀ i, W.cell? ⟨2, i, none⟩ = cs1.toList[i]? := fun i => by rw [World.var?_cell hg1 hv1 i]; simp
  obtain ⟨a4, s4, v4, _⟩ := laid_sentinel h4 gSyn tSyn Tryz.underlying25 row204 Tryz.underlying204 Tryz.underlying206 rfl rfl Tryz.underlying9 cells206 cells9
  obtain ⟨a5, s5, v5, _⟩ := laid_sentinel h5 gRng tRng Tryz.underlying25 row204 Tryz.underlying204 Tryz.underlying206 rfl rfl Tryz.underlying9 cells206 cells9
  have he : Env W := ⟨Go.Proofs.cell_of_shapedOpen_int (zero := #[.int .i64 0]) (t := 3) hsh (of_decide_eq_true (by kernel_rfl)) (by kernel_rfl) rfl (by kernel_rfl) (by kernel_rfl) Tryz.underlying3,
    fun j v hv => by rw [Nat.zero_add, c0]; exact mark_cells hd0 j v hv, fun j v hv => by rw [Nat.zero_add, c1]; exact flat_get pairsL _ (pair_cells hd1) j v hv, ⟨_, _, v4⟩, ⟨_, _, v5⟩⟩
  exact ⟨he, Lib.tabIs_of_head gPow tPow Tryz.underlying177 Tryz.underlying167 (by kernel_rfl) (by kernel_rfl) h3, Nat.le_refl _, he.lt⟩
end Go.Proofs.YtpakgaegckkmnaaGreatDoor

namespace Go.Proofs.YtpakgaegckkmnaaGreatDoor
set_option linter.unusedVariables false
open Go Go.Deep Go.ChangeShapes Go.WideShapes Go.ChangeAt Go.WideMaps Go.WideElems Go.RowKit

set_option maxRecDepth 100000 in
theorem env_ofP {W : World} (hR : laidMetH Tryz.prog laidP W) (hsh : W.ShapedOpen Tryz.prog) : EnvW 11 W := by
  have h : laidMet Tryz.prog laidP W := by
    rw [MakeChecks.laidMetH_plain _ _ _ (by kernel_rfl)] at hR
    exact hR
  have h1 := h.filter (fun x => x.1 == "bloomery/tree.marks")
  rw [show laidP.filter (fun x => x.1 == "bloomery/tree.marks") = [("bloomery/tree.marks", Rows.laid_bloomery_tree_marks)] by kernel_rfl] at h1
  have h2 := h.filter (fun x => x.1 == "bloomery/tree.pairs")
  rw [show laidP.filter (fun x => x.1 == "bloomery/tree.pairs") = [("bloomery/tree.pairs", Rows.laid_bloomery_tree_pairs)] by kernel_rfl] at h2
  have h3 := h.filter (fun x => x.1 == "internal/strconv.uint64pow10")
  rw [show laidP.filter (fun x => x.1 == "internal/strconv.uint64pow10") = [("internal/strconv.uint64pow10", Lib.tabData .u64 Lib.pow10Tab)] by kernel_rfl] at h3
  have h4 := h.filter (fun x => x.1 == "strconv.ErrSyntax")
  rw [show laidP.filter (fun x => x.1 == "strconv.ErrSyntax") = [("strconv.ErrSyntax", .iface "*errors.errorString" (.ptr (.agg [.lit (.string [105, 110, 118, 97, 108, 105, 100, 32, 115, 121, 110, 116, 97, 120])])))] by kernel_rfl] at h4
  have h5 := h.filter (fun x => x.1 == "strconv.ErrRange")
  rw [show laidP.filter (fun x => x.1 == "strconv.ErrRange") = [("strconv.ErrRange", .iface "*errors.errorString" (.ptr (.agg [.lit (.string [118, 97, 108, 117, 101, 32, 111, 117, 116, 32, 111, 102, 32, 114, 97, 110, 103, 101])])))] by kernel_rfl] at h5
  obtain ⟨_, ⟨g0, t0, cs0, f0, p0, q0, hg0, ht0, hv0, hd0, _, _⟩, _, _⟩ := h1
  obtain rfl := Option.some.inj (gMarks.symm.trans hg0)
  obtain rfl := Option.some.inj (tMarks.symm.trans ht0)
  rw [marksD] at hd0
  have c0 : ∀ i, W.cell? ⟨1, i, none⟩ = cs0.toList[i]? := fun i => by rw [World.var?_cell hg0 hv0 i]; simp
  obtain ⟨_, ⟨g1, t1, cs1, f1, p1, q1, hg1, ht1, hv1, hd1, _, _⟩, _, _⟩ := h2
  obtain rfl := Option.some.inj (gPairs.symm.trans hg1)
  obtain rfl := Option.some.inj (tPairs.symm.trans ht1)
  rw [pairsD] at hd1
  have c1 : ∀ i, W.cell? ⟨2, i, none⟩ = cs1.toList[i]? := fun i => by rw [World.var?_cell hg1 hv1 i]; simp
  obtain ⟨a4, s4, v4, _⟩ := laid_sentinel h4 gSyn tSyn Tryz.underlying25 row204 Tryz.underlying204 Tryz.underlying206 rfl rfl Tryz.underlying9 cells206 cells9
  obtain ⟨a5, s5, v5, _⟩ := laid_sentinel h5 gRng tRng Tryz.underlying25 row204 Tryz.underlying204 Tryz.underlying206 rfl rfl Tryz.underlying9 cells206 cells9
  have he : Env W := ⟨Go.Proofs.cell_of_shapedOpen_int (zero := #[.int .i64 0]) (t := 3) hsh (of_decide_eq_true (by kernel_rfl)) (by kernel_rfl) rfl (by kernel_rfl) (by kernel_rfl) Tryz.underlying3,
    fun j v hv => by rw [Nat.zero_add, c0]; exact mark_cells hd0 j v hv, fun j v hv => by rw [Nat.zero_add, c1]; exact flat_get pairsL _ (pair_cells hd1) j v hv, ⟨_, _, v4⟩, ⟨_, _, v5⟩⟩
  exact ⟨he, Lib.tabIs_of_head gPow tPow Tryz.underlying177 Tryz.underlying167 (by kernel_rfl) (by kernel_rfl) h3, Nat.le_refl _, he.lt⟩
end Go.Proofs.YtpakgaegckkmnaaGreatDoor
