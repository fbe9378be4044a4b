/- errors.Is, as the program asks it: of the sum's error itself, and of a fault of the tokens; damaged.
damaged: the error that tells a bad block.
errors.As, as the program and the statements ask it: of no error, and of one that tells a bad block; damagedBlock.
damagedBlock; what an error that tells a bad block is to errors.As. -/
import Derived.Test.YtafkpmjifgohcaaGreatDoorAlluptoPart29
import Derived.LaidEql
import Derived.Stop.Asserts
import Derived.RowKitTokens
namespace Go.Proofs.YtafkpmjifgohcaaGreatDoor
open Go.RowKit Go.Extern.Stop Go.Stop Go.Extern

theorem Tryz.isTypeOf (v : Value) (w : World) : (Extern.ReflectliteType.typeOf #[.iface 175 v]).run Tryz.prog w = .ok (.iface 138 (.agg #[.pointer (some ⟨8, 175, none⟩)])) w := by kernel_rfl
/-- The model's entry for (rtype).Comparable. -/
def cmpEntry : Array Value → Sem Value := Extern.ReflectliteType.method fun t => do Extern.Rtype.noPackHeld "Comparable" t; pure (.bool (← typeInfo t).comparable)
theorem Tryz.isComparable (w : World) : (cmpEntry #[.agg #[.pointer (some ⟨8, 175, none⟩)]]).run Tryz.prog w = .ok (.bool true) w := by kernel_rfl
theorem Tryz.isMethodComparable (v : Value) (w : World) : (Go.method 306 138 v "Comparable").run Tryz.prog w = .ok (108, v) w := by kernel_rfl
theorem Tryz.isComp : (Tryz.prog.info? 175).map (·.comparable) = some true := by kernel_rfl
theorem Tryz.isSize : (Tryz.prog.info? 194).map (·.size) = some 1 := by kernel_rfl

theorem Tryz.noIsE (v : Value) (xT : TypeId) (w : World) : (Instr.typeAssert (.iface 175 v) xT 172 true).run Tryz.prog w = .ok (.tuple #[.nilIface, .bool false]) w := run_typeAssert_lacksB Tryz.underlying172 (by kernel_rfl) (by kernel_rfl) v xT w
theorem Tryz.noUnwrapE (v : Value) (xT : TypeId) (w : World) : (Instr.typeAssert (.iface 175 v) xT 146 true).run Tryz.prog w = .ok (.tuple #[.nilIface, .bool false]) w := run_typeAssert_lacksB Tryz.underlying146 (by kernel_rfl) (by kernel_rfl) v xT w
theorem Tryz.noUnwrapsE (v : Value) (xT : TypeId) (w : World) : (Instr.typeAssert (.iface 175 v) xT 148 true).run Tryz.prog w = .ok (.tuple #[.nilIface, .bool false]) w := run_typeAssert_lacksB Tryz.underlying148 (by kernel_rfl) (by kernel_rfl) v xT w
theorem Tryz.noIsF (v : Value) (xT : TypeId) (w : World) : (Instr.typeAssert (.iface 167 v) xT 172 true).run Tryz.prog w = .ok (.tuple #[.nilIface, .bool false]) w := run_typeAssert_lacksB Tryz.underlying172 (by kernel_rfl) (by kernel_rfl) v xT w
theorem Tryz.hasUnwrapF (v : Value) (xT : TypeId) (w : World) : (Instr.typeAssert (.iface 167 v) xT 146 true).run Tryz.prog w = .ok (.tuple #[.iface 167 v, .bool true]) w := run_typeAssert_hasB Tryz.underlying146 (by kernel_rfl) v xT w
theorem Tryz.methodUnwrapF (v : Value) (w : World) : (Go.method 306 167 v "Unwrap").run Tryz.prog w = .ok (120, v) w := by kernel_rfl

/-- errors.Is(x, x), x of errors.New's make. -/
theorem is_same (a : Addr) (w : World) :
    Calls Tryz.prog 78 #[.iface 175 (.pointer (some a)), .iface 175 (.pointer (some a))] w fun e w' => e = .returned (.bool true) ∧ w' = w := by
  obtain ⟨i, hi, hcmp⟩ := Option.map_eq_some_iff.1 Tryz.isComp
  obtain ⟨j, hj, hjs⟩ := Option.map_eq_some_iff.1 Tryz.isSize
  have h8 := @run_callFunc_extern Tryz.prog 68 _ Extern.ReflectliteType.typeOf Tryz.func68 (by kernel_rfl) (by kernel_rfl) (by kernel_rfl) (by kernel_rfl)
  have h32 := @run_callFunc_extern Tryz.prog 108 _ cmpEntry Tryz.func108 (by kernel_rfl) (by kernel_rfl) (by kernel_rfl) (by kernel_rfl)
  have tT := Tryz.isTypeOf
  have cT := Tryz.isComparable
  have mR := Tryz.isMethodComparable
  have heq := run_eql_iface_ptr_same (P := Tryz.prog) w a Tryz.underlying53 Tryz.underlying175 hi hcmp hj
  go_enter Tryz.func78, Tryz.ntmps78
  go_wp2
  refine wp_loop_rounds 1 ?_
  rw [rounds_succ]
  go_wp2
  go_ret
  exact ⟨rfl, rfl⟩

/-- errors.Is(f, x), f a fault of the tokens, which wraps another error of errors.New's make. -/
theorem is_fault (pb : Nat) (b a : Addr) (ca cb : Array Value) (ta tb : TypeId) (w : World) (h6 : w.cell? ⟨2, 0, none⟩ = some (.iface 175 (.pointer (some a)))) (hne : a ≠ b) (ha : w.heap[a.block]? = some (.cells ca ta (0, 0))) (hb : w.heap[b.block]? = some (.cells cb tb (0, 0))) :
    Calls Tryz.prog 78 #[.iface 167 (.pointer (some ⟨pb, 0, none⟩)), .iface 175 (.pointer (some b))] w fun e w' => e = .returned (.bool false) ∧ w' = w := by
  obtain ⟨i, hi, hcmp⟩ := Option.map_eq_some_iff.1 Tryz.isComp
  obtain ⟨j, hj, hjs⟩ := Option.map_eq_some_iff.1 Tryz.isSize
  have h8 := @run_callFunc_extern Tryz.prog 68 _ Extern.ReflectliteType.typeOf Tryz.func68 (by kernel_rfl) (by kernel_rfl) (by kernel_rfl) (by kernel_rfl)
  have h32 := @run_callFunc_extern Tryz.prog 108 _ cmpEntry Tryz.func108 (by kernel_rfl) (by kernel_rfl) (by kernel_rfl) (by kernel_rfl)
  have tT := Tryz.isTypeOf
  have cT := Tryz.isComparable
  have mR := Tryz.isMethodComparable
  have nE := Tryz.noIsE
  have uE := Tryz.noUnwrapE
  have vE := Tryz.noUnwrapsE
  have nF := Tryz.noIsF
  have uF := Tryz.hasUnwrapF
  have mU := Tryz.methodUnwrapF
  have heq := run_eql_iface_ptr_other (P := Tryz.prog) w Tryz.underlying53 Tryz.underlying175 hi hcmp hj (by rw [hjs]; decide) hne ha hb
  have hty := run_eql_iface_types (P := Tryz.prog) 167 175 (.pointer (some ⟨pb, 0, none⟩)) (.pointer (some b)) Tryz.underlying53 (by decide) w
  go_enter Tryz.func78, Tryz.ntmps78
  go_wp2
  refine wp_loop_rounds 2 ?_
  rw [rounds_succ]
  go_wp2
  rw [rounds_succ]
  go_wp2
  go_ret
  exact ⟨rfl, rfl⟩
end Go.Proofs.YtafkpmjifgohcaaGreatDoor

namespace Go.Proofs.YtafkpmjifgohcaaGreatDoor
open Go.RowKit Go.Extern.Stop Go.Stop Go.Extern

/-- An error that tells block k as bad, by the error at aw; its cells lie at B or behind. -/
def BadErr (w : World) (B : Nat) (e : Value) (k : Nat) (aw : Addr) : Prop :=
  ∃ q p f, e = .iface 159 (.pointer (some ⟨q, 0, none⟩)) ∧ B ≤ p ∧ B ≤ q ∧ w.heap[q]? = some (.cells #[.pointer (some ⟨p, 0, none⟩), f] 161 (0, 0)) ∧ w.heap[p]? = some (.cells #[.int .i64 k, .iface 175 (.pointer (some aw))] 87 (0, 0))

theorem badErr_two (w : World) (n : Nat) (aw : Addr) (f : Value) : ∃ v, Ending.returned (.iface 159 (.pointer (some ⟨w.heap.size + 1, 0, none⟩))) = .returned v ∧ BadErr ((w.alloc (.cells #[.int .i64 n, .iface 175 (.pointer (some aw))] 87)).alloc (.cells #[.pointer (some ⟨w.heap.size, 0, none⟩), f] 161)) w.heap.size v n aw ∧ Below w.heap.size w ((w.alloc (.cells #[.int .i64 n, .iface 175 (.pointer (some aw))] 87)).alloc (.cells #[.pointer (some ⟨w.heap.size, 0, none⟩), f] 161)) := by
  have hb : Below w.heap.size w (w.alloc (.cells #[.int .i64 n, .iface 175 (.pointer (some aw))] 87)) := (Below.refl _ _).alloc (Nat.le_refl _) _
  refine ⟨_, rfl, ⟨w.heap.size + 1, w.heap.size, f, rfl, Nat.le_refl _, Nat.le_succ _, ?_, ?_⟩, hb.alloc (by simp) _⟩
  · have := heap_alloc_new (w.alloc (.cells #[.int .i64 n, .iface 175 (.pointer (some aw))] 87)) (.cells #[.pointer (some ⟨w.heap.size, 0, none⟩), f] 161)
    simpa using this
  · have h2 : Below (w.heap.size + 1) (w.alloc (.cells #[.int .i64 n, .iface 175 (.pointer (some aw))] 87)) ((w.alloc (.cells #[.int .i64 n, .iface 175 (.pointer (some aw))] 87)).alloc (.cells #[.pointer (some ⟨w.heap.size, 0, none⟩), f] 161)) := (Below.refl _ _).alloc (by simp) _
    exact (h2.block w.heap.size (Nat.lt_succ_self _)).trans (heap_alloc_new w _)

set_option maxHeartbeats 1000000 in
theorem damaged_sum (n : Nat) (a5 a6 : Addr) (w : World) (h5 : w.cell? ⟨1, 0, none⟩ = some (.iface 175 (.pointer (some a5)))) (h6 : w.cell? ⟨2, 0, none⟩ = some (.iface 175 (.pointer (some a6)))) :
    Calls Tryz.prog 67 #[.int .i64 n, .iface 175 (.pointer (some a5))] w fun e w' => ∃ v, e = .returned v ∧ BadErr w' w.heap.size v n a5 ∧ Below w.heap.size w w' := by
  go_enter Tryz.func67, Tryz.ntmps67
  go_wp2_with fail
  refine (is_same a5 w).mono ?_
  rintro e w1 ⟨rfl, hw1⟩
  rw [hw1]
  clear hw1 w1
  go_wp2
  go_ret
  exact badErr_two w n a5 _
set_option maxHeartbeats 1000000 in
theorem damaged_tok (n pb : Nat) (a5 a6 : Addr) (ca cb : Array Value) (ta tb : TypeId) (w : World) (h5 : w.cell? ⟨1, 0, none⟩ = some (.iface 175 (.pointer (some a5)))) (h6 : w.cell? ⟨2, 0, none⟩ = some (.iface 175 (.pointer (some a6))))
    (hne : a6 ≠ a5) (ha : w.heap[a6.block]? = some (.cells ca ta (0, 0))) (hb : w.heap[a5.block]? = some (.cells cb tb (0, 0))) :
    Calls Tryz.prog 67 #[.int .i64 n, .iface 167 (.pointer (some ⟨pb, 0, none⟩))] w fun e w' => ∃ v, e = .returned v ∧ BadErr w' w.heap.size v n a6 ∧ Below w.heap.size w w' := by
  go_enter Tryz.func67, Tryz.ntmps67
  go_wp2_with fail
  refine (is_fault pb a5 a6 ca cb ta tb w h6 hne ha hb).mono ?_
  rintro e w1 ⟨rfl, hw1⟩
  rw [hw1]
  clear hw1 w1
  go_wp2
  go_ret
  exact badErr_two w n a6 _
end Go.Proofs.YtafkpmjifgohcaaGreatDoor

namespace Go.Proofs.YtafkpmjifgohcaaGreatDoor
open Go.RowKit Go.Extern.Stop Go.Stop Go.Extern

/-- errors.As(nil, target). -/
theorem as_nil (t : Value) (w : World) :
    Calls Tryz.prog 31 #[.nilIface, t] w fun e w' => e = .returned (.bool false) ∧ w' = w := by
  go_enter Tryz.func31, Tryz.ntmps31
  go_wp2
  go_ret
  exact ⟨rfl, rfl⟩

theorem Tryz.valueOfPP (t : Addr) (w : World) : (ReflectliteValue.unpack (.iface 85 (.pointer (some t)))).run Tryz.prog w
    = .ok (.agg #[.pointer (some ⟨8, 85, none⟩), .pointer (some ⟨w.heap.size, 0, none⟩), .int .u64 150]) (w.alloc (.cells #[.pointer (some t)] 85)) := by kernel_rfl
theorem Tryz.typePP (a : Addr) (w : World) : (ReflectliteValue.methodAny (ReflectliteValue.valueError "reflectlite.Value.Type" 0) (fun t _ _ _ => ReflectliteType.toType t) #[.agg #[.pointer (some ⟨8, 85, none⟩), .pointer (some a), .int .u64 150]]).run Tryz.prog w
    = .ok (.iface 138 (.agg #[.pointer (some ⟨8, 85, none⟩)])) w := by kernel_rfl
theorem Tryz.methodKind (h : Value) (w : World) : (Go.method 306 138 (.agg #[h]) "Kind").run Tryz.prog w = .ok (98, h) w := by kernel_rfl
theorem Tryz.kindPP (w : World) : ((ReflectliteType.abiMethod fun t => (fun a : Nat => Value.int IntKind.u8 (a : Int)) <$> Rtype.kind t) #[.pointer (some ⟨8, 85, none⟩)]).run Tryz.prog w = .ok (.int .u8 22) w := by kernel_rfl
theorem Tryz.kindP (w : World) : ((ReflectliteType.abiMethod fun t => (fun a : Nat => Value.int IntKind.u8 (a : Int)) <$> Rtype.kind t) #[.pointer (some ⟨8, 83, none⟩)]).run Tryz.prog w = .ok (.int .u8 22) w := by kernel_rfl

theorem Tryz.isNilPP (a p : Addr) (W : World) (ha : W.cell? a = some (.pointer (some p))) :
    (ReflectliteValue.method (ReflectliteValue.valueError "reflectlite.Value.IsNil" 0) ReflectliteValue.isNil #[.agg #[.pointer (some ⟨8, 85, none⟩), .pointer (some a), .int .u64 150]]).run Tryz.prog W = .ok (.bool false) W := by
  have e : (ReflectliteValue.method (ReflectliteValue.valueError "reflectlite.Value.IsNil" 0) ReflectliteValue.isNil #[.agg #[.pointer (some ⟨8, 85, none⟩), .pointer (some a), .int .u64 150]]).run Tryz.prog W = (ReflectliteValue.isNil 85 a 150 22).run Tryz.prog W := by kernel_rfl
  rw [e]
  simp [ReflectliteValue.isNil, loadVar, isAgg, underlying, Tryz.underlying85, ha, Result.andThen]

theorem Tryz.methodElem (h : Value) (w : World) : (Go.method 306 138 (.agg #[h]) "Elem").run Tryz.prog w = .ok (109, .agg #[h]) w := by kernel_rfl
theorem Tryz.methodImplements (h : Value) (w : World) : (Go.method 306 138 (.agg #[h]) "Implements").run Tryz.prog w = .ok (110, .agg #[h]) w := by kernel_rfl
theorem Tryz.methodAssignableTo (h : Value) (w : World) : (Go.method 306 138 (.agg #[h]) "AssignableTo").run Tryz.prog w = .ok (107, .agg #[h]) w := by kernel_rfl
theorem Tryz.elemPP (w : World) : (ReflectliteType.method ReflectliteType.elem #[.agg #[.pointer (some ⟨8, 85, none⟩)]]).run Tryz.prog w = .ok (.iface 138 (.agg #[.pointer (some ⟨8, 83, none⟩)])) w := by kernel_rfl
theorem Tryz.implementsP (w : World) : (ReflectliteType.relation "Implements" ReflectliteType.implements_ #[.agg #[.pointer (some ⟨8, 83, none⟩)], .iface 138 (.agg #[.pointer (some ⟨8, 53, none⟩)])]).run Tryz.prog w = .ok (.bool true) w := by kernel_rfl
theorem Tryz.typeOfP (v : Value) (w : World) : (ReflectliteType.typeOf #[.iface 83 v]).run Tryz.prog w = .ok (.iface 138 (.agg #[.pointer (some ⟨8, 83, none⟩)])) w := by kernel_rfl
theorem Tryz.typeOfB (v : Value) (w : World) : (ReflectliteType.typeOf #[.iface 159 v]).run Tryz.prog w = .ok (.iface 138 (.agg #[.pointer (some ⟨8, 159, none⟩)])) w := by kernel_rfl
theorem Tryz.assignableP (w : World) : (ReflectliteType.relation "AssignableTo" ReflectliteType.assignableTo #[.agg #[.pointer (some ⟨8, 83, none⟩)], .iface 138 (.agg #[.pointer (some ⟨8, 83, none⟩)])]).run Tryz.prog w = .ok (.bool true) w := by kernel_rfl
theorem Tryz.assignableB (w : World) : (ReflectliteType.relation "AssignableTo" ReflectliteType.assignableTo #[.agg #[.pointer (some ⟨8, 159, none⟩)], .iface 138 (.agg #[.pointer (some ⟨8, 83, none⟩)])]).run Tryz.prog w = .ok (.bool false) w := by kernel_rfl
theorem Tryz.valueOfP (e : Addr) (w : World) : (ReflectliteValue.unpack (.iface 83 (.pointer (some e)))).run Tryz.prog w
    = .ok (.agg #[.pointer (some ⟨8, 83, none⟩), .pointer (some ⟨w.heap.size, 0, none⟩), .int .u64 150]) (w.alloc (.cells #[.pointer (some e)] 83)) := by kernel_rfl
theorem Tryz.elemOfPP (w : World) : (Rtype.elem? 85).run Tryz.prog w = .ok (some 83) w := by kernel_rfl
theorem Tryz.mkP (p : Addr) (w : World) : (ReflectliteValue.mk 83 p ReflectliteValue.flagAddr).run Tryz.prog w = .ok (.agg #[.pointer (some ⟨8, 83, none⟩), .pointer (some p), .int .u64 406]) w := by kernel_rfl
theorem Tryz.elemVPP (a p : Addr) (W : World) (ha : W.cell? a = some (.pointer (some p))) :
    (ReflectliteValue.method (ReflectliteValue.valueError "reflectlite.Value.Elem" 0) ReflectliteValue.elem #[.agg #[.pointer (some ⟨8, 85, none⟩), .pointer (some a), .int .u64 150]]).run Tryz.prog W
      = .ok (.agg #[.pointer (some ⟨8, 83, none⟩), .pointer (some p), .int .u64 406]) W := by
  have e : (ReflectliteValue.method (ReflectliteValue.valueError "reflectlite.Value.Elem" 0) ReflectliteValue.elem #[.agg #[.pointer (some ⟨8, 85, none⟩), .pointer (some a), .int .u64 150]]).run Tryz.prog W = (ReflectliteValue.elem 85 a 150 22).run Tryz.prog W := by kernel_rfl
  rw [e]
  simp [ReflectliteValue.elem, loadVar, isAgg, underlying, Tryz.underlying85, ha, Result.andThen, Tryz.elemOfPP, Tryz.mkP]
theorem Tryz.setP (ta b e : Addr) (old : Value) (W : World) (hb : W.cell? b = some (.pointer (some e))) (ht : W.cell? ta = some old) (hf : W.frozen? ta = false) :
    (ReflectliteValue.set #[.agg #[.pointer (some ⟨8, 83, none⟩), .pointer (some ta), .int .u64 406], .agg #[.pointer (some ⟨8, 83, none⟩), .pointer (some b), .int .u64 150]]).run Tryz.prog W
      = .ok (.tuple #[]) (W.setCell ta (.pointer (some e))) := by
  have e : (ReflectliteValue.set #[.agg #[.pointer (some ⟨8, 83, none⟩), .pointer (some ta), .int .u64 406], .agg #[.pointer (some ⟨8, 83, none⟩), .pointer (some b), .int .u64 150]]).run Tryz.prog W
      = (loadVar 83 b >>= fun val => storeVar 83 ta val >>= fun _ => pure (.tuple #[])).run Tryz.prog W := by kernel_rfl
  rw [e]
  simp [loadVar, isAgg, underlying, Tryz.underlying83, hb, Result.andThen, storeVar, Value.cells, storeCells, Addr.add]
  rw [run_store Tryz.prog W ta _ _ (by rfl)]
  simp [ht, hf]

theorem Tryz.noAsB (v : Value) (xT : TypeId) (w : World) : (Instr.typeAssert (.iface 159 v) xT 143 true).run Tryz.prog w = .ok (.tuple #[.nilIface, .bool false]) w := run_typeAssert_lacksB Tryz.underlying143 (by kernel_rfl) (by kernel_rfl) v xT w
theorem Tryz.hasUnwrapB (v : Value) (xT : TypeId) (w : World) : (Instr.typeAssert (.iface 159 v) xT 146 true).run Tryz.prog w = .ok (.tuple #[.iface 159 v, .bool true]) w := run_typeAssert_hasB Tryz.underlying146 (by kernel_rfl) v xT w
theorem Tryz.methodUnwrapB (v : Value) (w : World) : (Go.method 306 159 v "Unwrap").run Tryz.prog w = .ok (118, v) w := by kernel_rfl

set_option maxHeartbeats 4000000 in
theorem as_bad (q : Nat) (e t : Addr) (old : Value) (w : World) (hg : w.cell? ⟨7, 0, none⟩ = some (.iface 138 (.agg #[.pointer (some ⟨8, 53, none⟩)]))) (hq0 : w.cell? ⟨q, 0, none⟩ = some (.pointer (some e))) (ht0 : w.cell? t = some old) (hf0 : w.frozen? t = false) :
    Calls Tryz.prog 31 #[.iface 159 (.pointer (some ⟨q, 0, none⟩)), .iface 85 (.pointer (some t))] w fun ev w' => ev = .returned (.bool true) ∧ w' = ((((w.alloc (.cells #[.pointer (some t)] 85)).alloc (.cells #[.pointer (some ⟨8, 85, none⟩), .pointer (some ⟨w.heap.size, 0, none⟩), .int .u64 150] 113)).alloc (.cells #[.pointer (some ⟨8, 85, none⟩), .pointer (some ⟨w.heap.size, 0, none⟩), .int .u64 150] 113)).alloc (.cells #[.pointer (some e)] 83)).setCell t (.pointer (some e)) := by
  have h6 := @run_callFunc_extern Tryz.prog 51 _ (fun args => ReflectliteValue.unpack (args.getD 0 (.tuple #[]))) Tryz.func51 (by kernel_rfl) (by kernel_rfl) (by kernel_rfl) (by kernel_rfl)
  have h7 := @run_callFunc_extern Tryz.prog 52 _ (ReflectliteValue.methodAny (ReflectliteValue.valueError "reflectlite.Value.Type" 0) (fun t _ _ _ => ReflectliteType.toType t)) Tryz.func52 (by kernel_rfl) (by kernel_rfl) (by kernel_rfl) (by kernel_rfl)
  have h8 := @run_callFunc_extern Tryz.prog 53 _ (ReflectliteValue.method (ReflectliteValue.valueError "reflectlite.Value.IsNil" 0) ReflectliteValue.isNil) Tryz.func53 (by kernel_rfl) (by kernel_rfl) (by kernel_rfl) (by kernel_rfl)
  have h27 := @run_callFunc_extern Tryz.prog 98 _ (ReflectliteType.abiMethod fun t => do pure (.int .u8 (← Rtype.kind t))) Tryz.func98 (by kernel_rfl) (by kernel_rfl) (by kernel_rfl) (by kernel_rfl)
  have h37 := @run_callFunc_extern Tryz.prog 109 _ (ReflectliteType.method ReflectliteType.elem) Tryz.func109 (by kernel_rfl) (by kernel_rfl) (by kernel_rfl) (by kernel_rfl)
  have h38 := @run_callFunc_extern Tryz.prog 110 _ (ReflectliteType.relation "Implements" ReflectliteType.implements_) Tryz.func110 (by kernel_rfl) (by kernel_rfl) (by kernel_rfl) (by kernel_rfl)
  have h10 := @run_callFunc_extern Tryz.prog 68 _ ReflectliteType.typeOf Tryz.func68 (by kernel_rfl) (by kernel_rfl) (by kernel_rfl) (by kernel_rfl)
  have h35 := @run_callFunc_extern Tryz.prog 107 _ (ReflectliteType.relation "AssignableTo" ReflectliteType.assignableTo) Tryz.func107 (by kernel_rfl) (by kernel_rfl) (by kernel_rfl) (by kernel_rfl)
  have h11 := @run_callFunc_extern Tryz.prog 69 _ (ReflectliteValue.method (ReflectliteValue.valueError "reflectlite.Value.Elem" 0) ReflectliteValue.elem) Tryz.func69 (by kernel_rfl) (by kernel_rfl) (by kernel_rfl) (by kernel_rfl)
  have h12 := @run_callFunc_extern Tryz.prog 70 _ ReflectliteValue.set Tryz.func70 (by kernel_rfl) (by kernel_rfl) (by kernel_rfl) (by kernel_rfl)
  have tO := Tryz.typeOfP
  have tB := Tryz.typeOfB
  have mA := Tryz.methodAssignableTo
  have aP := Tryz.assignableP
  have aB := Tryz.assignableB
  have vP := Tryz.valueOfP
  have f6 := Tryz.valueOfPP
  have f7 := Tryz.typePP
  have mK := Tryz.methodKind
  have mE := Tryz.methodElem
  have mI := Tryz.methodImplements
  have kPP := Tryz.kindPP
  have kP := Tryz.kindP
  have ePP := Tryz.elemPP
  have iP := Tryz.implementsP
  have nA := Tryz.noAsB
  have uB := Tryz.hasUnwrapB
  have mU := Tryz.methodUnwrapB
  have n8 := Tryz.isNilPP ⟨w.heap.size, 0, none⟩ t ((w.alloc (.cells #[.pointer (some t)] 85)).alloc (.cells #[.pointer (some ⟨8, 85, none⟩), .pointer (some ⟨w.heap.size, 0, none⟩), .int .u64 150] 113)) (by simp)
  have hlt := cell_lt hg
  have hql := cell_lt hq0
  have htl : t.block < w.heap.size := by
    rcases Nat.lt_or_ge t.block w.heap.size with h | h
    · exact h
    · simp [World.cell?, Array.getElem?_eq_none h] at ht0
  have hg2 : ((w.alloc (.cells #[.pointer (some t)] 85)).alloc (.cells #[.pointer (some ⟨8, 85, none⟩), .pointer (some ⟨w.heap.size, 0, none⟩), .int .u64 150] 113)).cell? ⟨7, 0, none⟩ = some (.iface 138 (.agg #[.pointer (some ⟨8, 53, none⟩)])) := by
    rw [World.cell?_alloc_lt _ _ ⟨7, 0, none⟩ (by simp; omega), World.cell?_alloc_lt _ _ ⟨7, 0, none⟩ hlt]; exact hg
  have hq2 : (((w.alloc (.cells #[.pointer (some t)] 85)).alloc (.cells #[.pointer (some ⟨8, 85, none⟩), .pointer (some ⟨w.heap.size, 0, none⟩), .int .u64 150] 113)).alloc (.cells #[.pointer (some ⟨8, 85, none⟩), .pointer (some ⟨w.heap.size, 0, none⟩), .int .u64 150] 113)).cell? ⟨q, 0, none⟩ = some (.pointer (some e)) := by
    rw [World.cell?_alloc_lt _ _ ⟨q, 0, none⟩ (by simp; omega), World.cell?_alloc_lt _ _ ⟨q, 0, none⟩ (by simp; omega), World.cell?_alloc_lt _ _ ⟨q, 0, none⟩ hql]; exact hq0
  have el := Tryz.elemVPP ⟨w.heap.size, 0, none⟩ t (((w.alloc (.cells #[.pointer (some t)] 85)).alloc (.cells #[.pointer (some ⟨8, 85, none⟩), .pointer (some ⟨w.heap.size, 0, none⟩), .int .u64 150] 113)).alloc (.cells #[.pointer (some ⟨8, 85, none⟩), .pointer (some ⟨w.heap.size, 0, none⟩), .int .u64 150] 113)) (by rw [World.cell?_alloc_lt _ _ ⟨w.heap.size, 0, none⟩ (by simp; omega)]; simp)
  have st := Tryz.setP t ⟨w.heap.size + 1 + 1 + 1, 0, none⟩ e old ((((w.alloc (.cells #[.pointer (some t)] 85)).alloc (.cells #[.pointer (some ⟨8, 85, none⟩), .pointer (some ⟨w.heap.size, 0, none⟩), .int .u64 150] 113)).alloc (.cells #[.pointer (some ⟨8, 85, none⟩), .pointer (some ⟨w.heap.size, 0, none⟩), .int .u64 150] 113)).alloc (.cells #[.pointer (some e)] 83))
    (by rw [World.cell?_alloc_at _ _ _ _ (by simp)]; rfl)
    (by rw [World.cell?_alloc_lt _ _ t (by simp; omega), World.cell?_alloc_lt _ _ t (by simp; omega), World.cell?_alloc_lt _ _ t (by simp; omega), World.cell?_alloc_lt _ _ t htl]; exact ht0)
    (by rw [World.frozen?_alloc_old _ _ t (by simp; omega), World.frozen?_alloc_old _ _ t (by simp; omega), World.frozen?_alloc_old _ _ t (by simp; omega), World.frozen?_alloc_old _ _ t (Nat.ne_of_lt htl)]; exact hf0)
  go_enter Tryz.func31, Tryz.ntmps31
  go_wp2
  refine wp_loop_rounds 2 ?_
  rw [rounds_succ]
  go_wp2
  rw [rounds_succ]
  go_wp2
  go_ret
  exact ⟨rfl, rfl⟩
end Go.Proofs.YtafkpmjifgohcaaGreatDoor

namespace Go.Proofs.YtafkpmjifgohcaaGreatDoor
open Go.RowKit

/-- The type of errors, as errors.As finds it. -/
def ErrT (w : World) : Prop := w.cell? ⟨7, 0, none⟩ = some (.iface 138 (.agg #[.pointer (some ⟨8, 53, none⟩)]))
theorem ErrT.below {w w' : World} (h : ErrT w) (hb : Below w.heap.size w w') : ErrT w' := (hb.cell (p := ⟨7, 0, none⟩) (cell_lt h)).trans h

theorem BadErr.below {w w' : World} {B C : Nat} {e : Value} {k : Nat} {aw : Addr} (h : BadErr w B e k aw) (hb : Below C w w') (hC : w.heap.size ≤ C) : BadErr w' B e k aw := by
  obtain ⟨q, p, f, he, h1, h2, h3, h4⟩ := h
  refine ⟨q, p, f, he, h1, h2, (hb.block q ?_).trans h3, (hb.block p ?_).trans h4⟩
  · rcases Nat.lt_or_ge q w.heap.size with c | c
    · omega
    · simp [Array.getElem?_eq_none c] at h3
  · rcases Nat.lt_or_ge p w.heap.size with c | c
    · omega
    · simp [Array.getElem?_eq_none c] at h4
theorem BadErr.mono {w : World} {B C : Nat} {e : Value} {k : Nat} {aw : Addr} (h : BadErr w B e k aw) (hC : C ≤ B) : BadErr w C e k aw := by
  obtain ⟨q, p, f, he, h1, h2, h3, h4⟩ := h
  exact ⟨q, p, f, he, by omega, by omega, h3, h4⟩

/-- errors.As sets the new variable; all else that was there stays. -/
theorem as_badErr (B k : Nat) (aw : Addr) (e : Value) (w0 W : World) (he : BadErr w0 B e k aw) (hg : ErrT w0) (hW : Below w0.heap.size w0 W) (ht : W.heap[w0.heap.size]? = some (.cells #[.pointer none] 83 (0, 0))) :
    Calls Tryz.prog 31 #[e, .iface 85 (.pointer (some ⟨w0.heap.size, 0, none⟩))] W fun ev w' => ev = .returned (.bool true) ∧ Below w0.heap.size w0 w' ∧
      ∃ p : Nat, p < w0.heap.size ∧ w'.cell? ⟨w0.heap.size, 0, none⟩ = some (.pointer (some ⟨p, 0, none⟩)) ∧ w'.cell? ⟨p, 0, none⟩ = some (.int .i64 k) ∧ w'.cell? ⟨p, 1, none⟩ = some (.iface 175 (.pointer (some aw))) := by
  obtain ⟨q, p, f, rfl, h1, h2, h3, h4⟩ := he
  have hq : q < w0.heap.size := by
    rcases Nat.lt_or_ge q w0.heap.size with c | c
    · exact c
    · simp [Array.getElem?_eq_none c] at h3
  have hp : p < w0.heap.size := by
    rcases Nat.lt_or_ge p w0.heap.size with c | c
    · exact c
    · simp [Array.getElem?_eq_none c] at h4
  have hct : W.cell? ⟨w0.heap.size, 0, none⟩ = some (.pointer none) := by simp [World.cell?, ht]
  refine (as_bad q ⟨p, 0, none⟩ ⟨w0.heap.size, 0, none⟩ (.pointer none) W ((hW.cell (p := ⟨7, 0, none⟩) (cell_lt hg)).trans hg) ((hW.cell (p := ⟨q, 0, none⟩) hq).trans (by simp [World.cell?, h3])) hct (by simp [World.frozen?, ht])).mono ?_
  rintro ev w' ⟨rfl, rfl⟩
  have hsz := hW.size
  have htl : w0.heap.size < W.heap.size := cell_lt hct
  have hb : Below W.heap.size W ((((W.alloc (.cells #[.pointer (some ⟨w0.heap.size, 0, none⟩)] 85)).alloc (.cells #[.pointer (some ⟨8, 85, none⟩), .pointer (some ⟨W.heap.size, 0, none⟩), .int .u64 150] 113)).alloc (.cells #[.pointer (some ⟨8, 85, none⟩), .pointer (some ⟨W.heap.size, 0, none⟩), .int .u64 150] 113)).alloc (.cells #[.pointer (some ⟨p, 0, none⟩)] 83)) :=
    ((((Below.refl _ _).alloc (Nat.le_refl _) _).alloc (by simp) _).alloc (by simp; omega) _).alloc (by simp; omega) _
  generalize ((((W.alloc (.cells #[.pointer (some ⟨w0.heap.size, 0, none⟩)] 85)).alloc (.cells #[.pointer (some ⟨8, 85, none⟩), .pointer (some ⟨W.heap.size, 0, none⟩), .int .u64 150] 113)).alloc (.cells #[.pointer (some ⟨8, 85, none⟩), .pointer (some ⟨W.heap.size, 0, none⟩), .int .u64 150] 113)).alloc (.cells #[.pointer (some ⟨p, 0, none⟩)] 83)) = W4 at hb ⊢
  have hB : Below w0.heap.size w0 (W4.setCell ⟨w0.heap.size, 0, none⟩ (.pointer (some ⟨p, 0, none⟩))) := (hW.trans (hb.mono hsz)).setCell (Nat.le_refl _) _
  refine ⟨rfl, hB, p, hp, World.cell?_setCell_same _ _ _ ((hb.cell (p := ⟨w0.heap.size, 0, none⟩) htl).trans hct), (hB.cell (p := ⟨p, 0, none⟩) hp).trans (by simp [World.cell?, h4]), (hB.cell (p := ⟨p, 1, none⟩) hp).trans (by simp [World.cell?, h4])⟩

set_option maxHeartbeats 1000000 in
theorem damagedBlock_nil (w : World) :
    Calls Tryz.prog 56 #[.nilIface] w fun e w' => e = .returned (.tuple #[.int .i64 0, .bool false]) ∧ Below w.heap.size w w' := by
  go_enter Tryz.func56, Tryz.ntmps56
  go_wp2_with fail
  refine (as_nil _ _).mono ?_
  rintro e w1 ⟨rfl, hw1⟩
  rw [hw1]
  clear hw1 w1
  go_wp2
  go_ret2
  exact ⟨rfl, (Below.refl _ _).alloc (Nat.le_refl _) _⟩

set_option maxHeartbeats 1000000 in
theorem damagedBlock_bad (B k : Nat) (aw : Addr) (v : Value) (w : World) (he : BadErr w B v k aw) (hg : ErrT w) :
    Calls Tryz.prog 56 #[v] w fun e w' => e = .returned (.tuple #[.int .i64 k, .bool true]) ∧ Below w.heap.size w w' := by
  have HE : Hid (BadErr w B v k aw) := he
  have HG : Hid (ErrT w) := hg
  obtain ⟨q, p, f, hv, _⟩ := he
  clear hg
  subst hv
  go_enter Tryz.func56, Tryz.ntmps56
  go_wp2_with fail
  refine (as_badErr B k aw _ w _ HE.out HG.out ((Below.refl _ _).alloc (Nat.le_refl _) _) (heap_alloc_new _ _)).mono ?_
  rintro e w1 ⟨rfl, hb, p', hp', c0, c1, c2⟩
  have HB : Hid (Below w.heap.size w w1) := hb
  clear hb
  go_wp2
  go_ret2
  exact ⟨rfl, HB.out⟩
end Go.Proofs.YtafkpmjifgohcaaGreatDoor
