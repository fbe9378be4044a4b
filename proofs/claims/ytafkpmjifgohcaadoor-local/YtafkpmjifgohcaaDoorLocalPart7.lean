/- errors.Is, as the program asks it: of the sum's error itself, and of a fault of the tokens; damaged.
damaged: the error that tells a bad block.
errors.As, as the program and the statements ask it: of no error, and of one that tells a bad block; damagedBlock.
damagedBlock; what an error that tells a bad block is to errors.As. -/
import Derived.Test.YtafkpmjifgohcaaDoorLocalPart2
import Derived.LaidEql
import Derived.Stop.Asserts
import Derived.RowKitTokens
namespace Go.Proofs.YtafkpmjifgohcaaDoor
open Go.RowKit Go.Extern.Stop Go.Stop Go.Extern

theorem Tryd.isTypeOf (v : Value) (w : World) : (Extern.ReflectliteType.typeOf #[.iface 170 v]).run Tryd.prog w = .ok (.iface 137 (.agg #[.pointer (some ⟨8, 170, none⟩)])) w := by kernel_rfl
/-- The model's entry for (rtype).Comparable. -/
def cmpEntry : Array Value → Sem Value := Extern.ReflectliteType.method fun t => do Extern.Rtype.noPackHeld "Comparable" t; pure (.bool (← typeInfo t).comparable)
theorem Tryd.isComparable (w : World) : (cmpEntry #[.agg #[.pointer (some ⟨8, 170, none⟩)]]).run Tryd.prog w = .ok (.bool true) w := by kernel_rfl
theorem Tryd.isMethodComparable (v : Value) (w : World) : (Go.method 301 137 v "Comparable").run Tryd.prog w = .ok (116, v) w := by kernel_rfl
theorem Tryd.isComp : (Tryd.prog.info? 170).map (·.comparable) = some true := by kernel_rfl
theorem Tryd.isSize : (Tryd.prog.info? 189).map (·.size) = some 1 := by kernel_rfl

theorem Tryd.noIsE (v : Value) (xT : TypeId) (w : World) : (Instr.typeAssert (.iface 170 v) xT 167 true).run Tryd.prog w = .ok (.tuple #[.nilIface, .bool false]) w := run_typeAssert_lacksB Tryd.underlying167 (by kernel_rfl) (by kernel_rfl) v xT w
theorem Tryd.noUnwrapE (v : Value) (xT : TypeId) (w : World) : (Instr.typeAssert (.iface 170 v) xT 145 true).run Tryd.prog w = .ok (.tuple #[.nilIface, .bool false]) w := run_typeAssert_lacksB Tryd.underlying145 (by kernel_rfl) (by kernel_rfl) v xT w
theorem Tryd.noUnwrapsE (v : Value) (xT : TypeId) (w : World) : (Instr.typeAssert (.iface 170 v) xT 146 true).run Tryd.prog w = .ok (.tuple #[.nilIface, .bool false]) w := run_typeAssert_lacksB Tryd.underlying146 (by kernel_rfl) (by kernel_rfl) v xT w
theorem Tryd.noIsF (v : Value) (xT : TypeId) (w : World) : (Instr.typeAssert (.iface 161 v) xT 167 true).run Tryd.prog w = .ok (.tuple #[.nilIface, .bool false]) w := run_typeAssert_lacksB Tryd.underlying167 (by kernel_rfl) (by kernel_rfl) v xT w
theorem Tryd.hasUnwrapF (v : Value) (xT : TypeId) (w : World) : (Instr.typeAssert (.iface 161 v) xT 145 true).run Tryd.prog w = .ok (.tuple #[.iface 161 v, .bool true]) w := run_typeAssert_hasB Tryd.underlying145 (by kernel_rfl) v xT w
theorem Tryd.methodUnwrapF (v : Value) (w : World) : (Go.method 301 161 v "Unwrap").run Tryd.prog w = .ok (128, v) w := by kernel_rfl

/-- errors.Is(x, x), x of errors.New's make. -/
theorem is_same (a : Addr) (w : World) :
    Calls Tryd.prog 83 #[.iface 170 (.pointer (some a)), .iface 170 (.pointer (some a))] w fun e w' => e = .returned (.bool true) ∧ w' = w := by
  obtain ⟨i, hi, hcmp⟩ := Option.map_eq_some_iff.1 Tryd.isComp
  obtain ⟨j, hj, hjs⟩ := Option.map_eq_some_iff.1 Tryd.isSize
  have h8 := @run_callFunc_extern Tryd.prog 78 _ Extern.ReflectliteType.typeOf Tryd.func78 (by kernel_rfl) (by kernel_rfl) (by kernel_rfl) (by kernel_rfl)
  have h32 := @run_callFunc_extern Tryd.prog 116 _ cmpEntry Tryd.func116 (by kernel_rfl) (by kernel_rfl) (by kernel_rfl) (by kernel_rfl)
  have tT := Tryd.isTypeOf
  have cT := Tryd.isComparable
  have mR := Tryd.isMethodComparable
  have heq := run_eql_iface_ptr_same (P := Tryd.prog) w a Tryd.underlying23 Tryd.underlying170 hi hcmp hj
  go_enter Tryd.func83, Tryd.ntmps83
  go_wp2
  refine wp_loop_rounds 1 ?_
  rw [rounds_succ]
  go_wp2
  go_ret
  exact ⟨rfl, rfl⟩

/-- errors.Is(f, x), f a fault of the tokens, which wraps another error of errors.New's make. -/
theorem is_fault (pb : Nat) (b a : Addr) (ca cb : Array Value) (ta tb : TypeId) (w : World) (h6 : w.cell? ⟨6, 0, none⟩ = some (.iface 170 (.pointer (some a)))) (hne : a ≠ b) (ha : w.heap[a.block]? = some (.cells ca ta (0, 0))) (hb : w.heap[b.block]? = some (.cells cb tb (0, 0))) :
    Calls Tryd.prog 83 #[.iface 161 (.pointer (some ⟨pb, 0, none⟩)), .iface 170 (.pointer (some b))] w fun e w' => e = .returned (.bool false) ∧ w' = w := by
  obtain ⟨i, hi, hcmp⟩ := Option.map_eq_some_iff.1 Tryd.isComp
  obtain ⟨j, hj, hjs⟩ := Option.map_eq_some_iff.1 Tryd.isSize
  have h8 := @run_callFunc_extern Tryd.prog 78 _ Extern.ReflectliteType.typeOf Tryd.func78 (by kernel_rfl) (by kernel_rfl) (by kernel_rfl) (by kernel_rfl)
  have h32 := @run_callFunc_extern Tryd.prog 116 _ cmpEntry Tryd.func116 (by kernel_rfl) (by kernel_rfl) (by kernel_rfl) (by kernel_rfl)
  have tT := Tryd.isTypeOf
  have cT := Tryd.isComparable
  have mR := Tryd.isMethodComparable
  have nE := Tryd.noIsE
  have uE := Tryd.noUnwrapE
  have vE := Tryd.noUnwrapsE
  have nF := Tryd.noIsF
  have uF := Tryd.hasUnwrapF
  have mU := Tryd.methodUnwrapF
  have heq := run_eql_iface_ptr_other (P := Tryd.prog) w Tryd.underlying23 Tryd.underlying170 hi hcmp hj (by rw [hjs]; decide) hne ha hb
  have hty := run_eql_iface_types (P := Tryd.prog) 161 170 (.pointer (some ⟨pb, 0, none⟩)) (.pointer (some b)) Tryd.underlying23 (by decide) w
  go_enter Tryd.func83, Tryd.ntmps83
  go_wp2
  refine wp_loop_rounds 2 ?_
  rw [rounds_succ]
  go_wp2
  rw [rounds_succ]
  go_wp2
  go_ret
  exact ⟨rfl, rfl⟩
end Go.Proofs.YtafkpmjifgohcaaDoor

namespace Go.Proofs.YtafkpmjifgohcaaDoor
open Go.RowKit Go.Extern.Stop Go.Stop Go.Extern

/-- An error that tells block k as bad, by the error at aw; its cells lie at B or behind. -/
def BadErr (w : World) (B : Nat) (e : Value) (k : Nat) (aw : Addr) : Prop :=
  ∃ q p f, e = .iface 151 (.pointer (some ⟨q, 0, none⟩)) ∧ B ≤ p ∧ B ≤ q ∧ w.heap[q]? = some (.cells #[.pointer (some ⟨p, 0, none⟩), f] 153 (0, 0)) ∧ w.heap[p]? = some (.cells #[.int .i64 k, .iface 170 (.pointer (some aw))] 27 (0, 0))

theorem badErr_two (w : World) (n : Nat) (aw : Addr) (f : Value) : ∃ v, Ending.returned (.iface 151 (.pointer (some ⟨w.heap.size + 1, 0, none⟩))) = .returned v ∧ BadErr ((w.alloc (.cells #[.int .i64 n, .iface 170 (.pointer (some aw))] 27)).alloc (.cells #[.pointer (some ⟨w.heap.size, 0, none⟩), f] 153)) w.heap.size v n aw ∧ Below w.heap.size w ((w.alloc (.cells #[.int .i64 n, .iface 170 (.pointer (some aw))] 27)).alloc (.cells #[.pointer (some ⟨w.heap.size, 0, none⟩), f] 153)) := by
  have hb : Below w.heap.size w (w.alloc (.cells #[.int .i64 n, .iface 170 (.pointer (some aw))] 27)) := (Below.refl _ _).alloc (Nat.le_refl _) _
  refine ⟨_, rfl, ⟨w.heap.size + 1, w.heap.size, f, rfl, Nat.le_refl _, Nat.le_succ _, ?_, ?_⟩, hb.alloc (by simp) _⟩
  · have := heap_alloc_new (w.alloc (.cells #[.int .i64 n, .iface 170 (.pointer (some aw))] 27)) (.cells #[.pointer (some ⟨w.heap.size, 0, none⟩), f] 153)
    simpa using this
  · have h2 : Below (w.heap.size + 1) (w.alloc (.cells #[.int .i64 n, .iface 170 (.pointer (some aw))] 27)) ((w.alloc (.cells #[.int .i64 n, .iface 170 (.pointer (some aw))] 27)).alloc (.cells #[.pointer (some ⟨w.heap.size, 0, none⟩), f] 153)) := (Below.refl _ _).alloc (by simp) _
    exact (h2.block w.heap.size (Nat.lt_succ_self _)).trans (heap_alloc_new w _)

set_option maxHeartbeats 1000000 in
theorem damaged_sum (n : Nat) (a5 a6 : Addr) (w : World) (h5 : w.cell? ⟨5, 0, none⟩ = some (.iface 170 (.pointer (some a5)))) (h6 : w.cell? ⟨6, 0, none⟩ = some (.iface 170 (.pointer (some a6)))) :
    Calls Tryd.prog 73 #[.int .i64 n, .iface 170 (.pointer (some a5))] w fun e w' => ∃ v, e = .returned v ∧ BadErr w' w.heap.size v n a5 ∧ Below w.heap.size w w' := by
  go_enter Tryd.func73, Tryd.ntmps73
  go_wp2_with fail
  refine (is_same a5 w).mono ?_
  rintro e w1 ⟨rfl, hw1⟩
  rw [hw1]
  clear hw1 w1
  go_wp2
  go_ret
  exact badErr_two w n a5 _
set_option maxHeartbeats 1000000 in
theorem damaged_tok (n pb : Nat) (a5 a6 : Addr) (ca cb : Array Value) (ta tb : TypeId) (w : World) (h5 : w.cell? ⟨5, 0, none⟩ = some (.iface 170 (.pointer (some a5)))) (h6 : w.cell? ⟨6, 0, none⟩ = some (.iface 170 (.pointer (some a6))))
    (hne : a6 ≠ a5) (ha : w.heap[a6.block]? = some (.cells ca ta (0, 0))) (hb : w.heap[a5.block]? = some (.cells cb tb (0, 0))) :
    Calls Tryd.prog 73 #[.int .i64 n, .iface 161 (.pointer (some ⟨pb, 0, none⟩))] w fun e w' => ∃ v, e = .returned v ∧ BadErr w' w.heap.size v n a6 ∧ Below w.heap.size w w' := by
  go_enter Tryd.func73, Tryd.ntmps73
  go_wp2_with fail
  refine (is_fault pb a5 a6 ca cb ta tb w h6 hne ha hb).mono ?_
  rintro e w1 ⟨rfl, hw1⟩
  rw [hw1]
  clear hw1 w1
  go_wp2
  go_ret
  exact badErr_two w n a6 _
end Go.Proofs.YtafkpmjifgohcaaDoor

namespace Go.Proofs.YtafkpmjifgohcaaDoor
open Go.RowKit Go.Extern.Stop Go.Stop Go.Extern

/-- errors.As(nil, target). -/
theorem as_nil (t : Value) (w : World) :
    Calls Tryd.prog 43 #[.nilIface, t] w fun e w' => e = .returned (.bool false) ∧ w' = w := by
  go_enter Tryd.func43, Tryd.ntmps43
  go_wp2
  go_ret
  exact ⟨rfl, rfl⟩

theorem Tryd.valueOfPP (t : Addr) (w : World) : (ReflectliteValue.unpack (.iface 90 (.pointer (some t)))).run Tryd.prog w
    = .ok (.agg #[.pointer (some ⟨8, 90, none⟩), .pointer (some ⟨w.heap.size, 0, none⟩), .int .u64 150]) (w.alloc (.cells #[.pointer (some t)] 90)) := by kernel_rfl
theorem Tryd.typePP (a : Addr) (w : World) : (ReflectliteValue.methodAny (ReflectliteValue.valueError "reflectlite.Value.Type" 0) (fun t _ _ _ => ReflectliteType.toType t) #[.agg #[.pointer (some ⟨8, 90, none⟩), .pointer (some a), .int .u64 150]]).run Tryd.prog w
    = .ok (.iface 137 (.agg #[.pointer (some ⟨8, 90, none⟩)])) w := by kernel_rfl
theorem Tryd.methodKind (h : Value) (w : World) : (Go.method 301 137 (.agg #[h]) "Kind").run Tryd.prog w = .ok (107, h) w := by kernel_rfl
theorem Tryd.kindPP (w : World) : ((ReflectliteType.abiMethod fun t => (fun a : Nat => Value.int IntKind.u8 (a : Int)) <$> Rtype.kind t) #[.pointer (some ⟨8, 90, none⟩)]).run Tryd.prog w = .ok (.int .u8 22) w := by kernel_rfl
theorem Tryd.kindP (w : World) : ((ReflectliteType.abiMethod fun t => (fun a : Nat => Value.int IntKind.u8 (a : Int)) <$> Rtype.kind t) #[.pointer (some ⟨8, 25, none⟩)]).run Tryd.prog w = .ok (.int .u8 22) w := by kernel_rfl

theorem Tryd.isNilPP (a p : Addr) (W : World) (ha : W.cell? a = some (.pointer (some p))) :
    (ReflectliteValue.method (ReflectliteValue.valueError "reflectlite.Value.IsNil" 0) ReflectliteValue.isNil #[.agg #[.pointer (some ⟨8, 90, none⟩), .pointer (some a), .int .u64 150]]).run Tryd.prog W = .ok (.bool false) W := by
  have e : (ReflectliteValue.method (ReflectliteValue.valueError "reflectlite.Value.IsNil" 0) ReflectliteValue.isNil #[.agg #[.pointer (some ⟨8, 90, none⟩), .pointer (some a), .int .u64 150]]).run Tryd.prog W = (ReflectliteValue.isNil 90 a 150 22).run Tryd.prog W := by kernel_rfl
  rw [e]
  simp [ReflectliteValue.isNil, loadVar, isAgg, underlying, Tryd.underlying90, ha, Result.andThen]

theorem Tryd.methodElem (h : Value) (w : World) : (Go.method 301 137 (.agg #[h]) "Elem").run Tryd.prog w = .ok (117, .agg #[h]) w := by kernel_rfl
theorem Tryd.methodImplements (h : Value) (w : World) : (Go.method 301 137 (.agg #[h]) "Implements").run Tryd.prog w = .ok (118, .agg #[h]) w := by kernel_rfl
theorem Tryd.methodAssignableTo (h : Value) (w : World) : (Go.method 301 137 (.agg #[h]) "AssignableTo").run Tryd.prog w = .ok (115, .agg #[h]) w := by kernel_rfl
theorem Tryd.elemPP (w : World) : (ReflectliteType.method ReflectliteType.elem #[.agg #[.pointer (some ⟨8, 90, none⟩)]]).run Tryd.prog w = .ok (.iface 137 (.agg #[.pointer (some ⟨8, 25, none⟩)])) w := by kernel_rfl
theorem Tryd.implementsP (w : World) : (ReflectliteType.relation "Implements" ReflectliteType.implements_ #[.agg #[.pointer (some ⟨8, 25, none⟩)], .iface 137 (.agg #[.pointer (some ⟨8, 23, none⟩)])]).run Tryd.prog w = .ok (.bool true) w := by kernel_rfl
theorem Tryd.typeOfP (v : Value) (w : World) : (ReflectliteType.typeOf #[.iface 25 v]).run Tryd.prog w = .ok (.iface 137 (.agg #[.pointer (some ⟨8, 25, none⟩)])) w := by kernel_rfl
theorem Tryd.typeOfB (v : Value) (w : World) : (ReflectliteType.typeOf #[.iface 151 v]).run Tryd.prog w = .ok (.iface 137 (.agg #[.pointer (some ⟨8, 151, none⟩)])) w := by kernel_rfl
theorem Tryd.assignableP (w : World) : (ReflectliteType.relation "AssignableTo" ReflectliteType.assignableTo #[.agg #[.pointer (some ⟨8, 25, none⟩)], .iface 137 (.agg #[.pointer (some ⟨8, 25, none⟩)])]).run Tryd.prog w = .ok (.bool true) w := by kernel_rfl
theorem Tryd.assignableB (w : World) : (ReflectliteType.relation "AssignableTo" ReflectliteType.assignableTo #[.agg #[.pointer (some ⟨8, 151, none⟩)], .iface 137 (.agg #[.pointer (some ⟨8, 25, none⟩)])]).run Tryd.prog w = .ok (.bool false) w := by kernel_rfl
theorem Tryd.valueOfP (e : Addr) (w : World) : (ReflectliteValue.unpack (.iface 25 (.pointer (some e)))).run Tryd.prog w
    = .ok (.agg #[.pointer (some ⟨8, 25, none⟩), .pointer (some ⟨w.heap.size, 0, none⟩), .int .u64 150]) (w.alloc (.cells #[.pointer (some e)] 25)) := by kernel_rfl
theorem Tryd.elemOfPP (w : World) : (Rtype.elem? 90).run Tryd.prog w = .ok (some 25) w := by kernel_rfl
theorem Tryd.mkP (p : Addr) (w : World) : (ReflectliteValue.mk 25 p ReflectliteValue.flagAddr).run Tryd.prog w = .ok (.agg #[.pointer (some ⟨8, 25, none⟩), .pointer (some p), .int .u64 406]) w := by kernel_rfl
theorem Tryd.elemVPP (a p : Addr) (W : World) (ha : W.cell? a = some (.pointer (some p))) :
    (ReflectliteValue.method (ReflectliteValue.valueError "reflectlite.Value.Elem" 0) ReflectliteValue.elem #[.agg #[.pointer (some ⟨8, 90, none⟩), .pointer (some a), .int .u64 150]]).run Tryd.prog W
      = .ok (.agg #[.pointer (some ⟨8, 25, none⟩), .pointer (some p), .int .u64 406]) W := by
  have e : (ReflectliteValue.method (ReflectliteValue.valueError "reflectlite.Value.Elem" 0) ReflectliteValue.elem #[.agg #[.pointer (some ⟨8, 90, none⟩), .pointer (some a), .int .u64 150]]).run Tryd.prog W = (ReflectliteValue.elem 90 a 150 22).run Tryd.prog W := by kernel_rfl
  rw [e]
  simp [ReflectliteValue.elem, loadVar, isAgg, underlying, Tryd.underlying90, ha, Result.andThen, Tryd.elemOfPP, Tryd.mkP]
theorem Tryd.setP (ta b e : Addr) (old : Value) (W : World) (hb : W.cell? b = some (.pointer (some e))) (ht : W.cell? ta = some old) (hf : W.frozen? ta = false) :
    (ReflectliteValue.set #[.agg #[.pointer (some ⟨8, 25, none⟩), .pointer (some ta), .int .u64 406], .agg #[.pointer (some ⟨8, 25, none⟩), .pointer (some b), .int .u64 150]]).run Tryd.prog W
      = .ok (.tuple #[]) (W.setCell ta (.pointer (some e))) := by
  have e : (ReflectliteValue.set #[.agg #[.pointer (some ⟨8, 25, none⟩), .pointer (some ta), .int .u64 406], .agg #[.pointer (some ⟨8, 25, none⟩), .pointer (some b), .int .u64 150]]).run Tryd.prog W
      = (loadVar 25 b >>= fun val => storeVar 25 ta val >>= fun _ => pure (.tuple #[])).run Tryd.prog W := by kernel_rfl
  rw [e]
  simp [loadVar, isAgg, underlying, Tryd.underlying25, hb, Result.andThen, storeVar, Value.cells, storeCells, Addr.add]
  rw [run_store Tryd.prog W ta _ _ (by rfl)]
  simp [ht, hf]

theorem Tryd.noAsB (v : Value) (xT : TypeId) (w : World) : (Instr.typeAssert (.iface 151 v) xT 142 true).run Tryd.prog w = .ok (.tuple #[.nilIface, .bool false]) w := run_typeAssert_lacksB Tryd.underlying142 (by kernel_rfl) (by kernel_rfl) v xT w
theorem Tryd.hasUnwrapB (v : Value) (xT : TypeId) (w : World) : (Instr.typeAssert (.iface 151 v) xT 145 true).run Tryd.prog w = .ok (.tuple #[.iface 151 v, .bool true]) w := run_typeAssert_hasB Tryd.underlying145 (by kernel_rfl) v xT w
theorem Tryd.methodUnwrapB (v : Value) (w : World) : (Go.method 301 151 v "Unwrap").run Tryd.prog w = .ok (126, v) w := by kernel_rfl

set_option maxHeartbeats 4000000 in
theorem as_bad (q : Nat) (e t : Addr) (old : Value) (w : World) (hg : w.cell? ⟨7, 0, none⟩ = some (.iface 137 (.agg #[.pointer (some ⟨8, 23, none⟩)]))) (hq0 : w.cell? ⟨q, 0, none⟩ = some (.pointer (some e))) (ht0 : w.cell? t = some old) (hf0 : w.frozen? t = false) :
    Calls Tryd.prog 43 #[.iface 151 (.pointer (some ⟨q, 0, none⟩)), .iface 90 (.pointer (some t))] w fun ev w' => ev = .returned (.bool true) ∧ w' = ((((w.alloc (.cells #[.pointer (some t)] 90)).alloc (.cells #[.pointer (some ⟨8, 90, none⟩), .pointer (some ⟨w.heap.size, 0, none⟩), .int .u64 150] 115)).alloc (.cells #[.pointer (some ⟨8, 90, none⟩), .pointer (some ⟨w.heap.size, 0, none⟩), .int .u64 150] 115)).alloc (.cells #[.pointer (some e)] 25)).setCell t (.pointer (some e)) := by
  have h6 := @run_callFunc_extern Tryd.prog 65 _ (fun args => ReflectliteValue.unpack (args.getD 0 (.tuple #[]))) Tryd.func65 (by kernel_rfl) (by kernel_rfl) (by kernel_rfl) (by kernel_rfl)
  have h7 := @run_callFunc_extern Tryd.prog 66 _ (ReflectliteValue.methodAny (ReflectliteValue.valueError "reflectlite.Value.Type" 0) (fun t _ _ _ => ReflectliteType.toType t)) Tryd.func66 (by kernel_rfl) (by kernel_rfl) (by kernel_rfl) (by kernel_rfl)
  have h8 := @run_callFunc_extern Tryd.prog 67 _ (ReflectliteValue.method (ReflectliteValue.valueError "reflectlite.Value.IsNil" 0) ReflectliteValue.isNil) Tryd.func67 (by kernel_rfl) (by kernel_rfl) (by kernel_rfl) (by kernel_rfl)
  have h27 := @run_callFunc_extern Tryd.prog 107 _ (ReflectliteType.abiMethod fun t => do pure (.int .u8 (← Rtype.kind t))) Tryd.func107 (by kernel_rfl) (by kernel_rfl) (by kernel_rfl) (by kernel_rfl)
  have h37 := @run_callFunc_extern Tryd.prog 117 _ (ReflectliteType.method ReflectliteType.elem) Tryd.func117 (by kernel_rfl) (by kernel_rfl) (by kernel_rfl) (by kernel_rfl)
  have h38 := @run_callFunc_extern Tryd.prog 118 _ (ReflectliteType.relation "Implements" ReflectliteType.implements_) Tryd.func118 (by kernel_rfl) (by kernel_rfl) (by kernel_rfl) (by kernel_rfl)
  have h10 := @run_callFunc_extern Tryd.prog 78 _ ReflectliteType.typeOf Tryd.func78 (by kernel_rfl) (by kernel_rfl) (by kernel_rfl) (by kernel_rfl)
  have h35 := @run_callFunc_extern Tryd.prog 115 _ (ReflectliteType.relation "AssignableTo" ReflectliteType.assignableTo) Tryd.func115 (by kernel_rfl) (by kernel_rfl) (by kernel_rfl) (by kernel_rfl)
  have h11 := @run_callFunc_extern Tryd.prog 79 _ (ReflectliteValue.method (ReflectliteValue.valueError "reflectlite.Value.Elem" 0) ReflectliteValue.elem) Tryd.func79 (by kernel_rfl) (by kernel_rfl) (by kernel_rfl) (by kernel_rfl)
  have h12 := @run_callFunc_extern Tryd.prog 80 _ ReflectliteValue.set Tryd.func80 (by kernel_rfl) (by kernel_rfl) (by kernel_rfl) (by kernel_rfl)
  have tO := Tryd.typeOfP
  have tB := Tryd.typeOfB
  have mA := Tryd.methodAssignableTo
  have aP := Tryd.assignableP
  have aB := Tryd.assignableB
  have vP := Tryd.valueOfP
  have f6 := Tryd.valueOfPP
  have f7 := Tryd.typePP
  have mK := Tryd.methodKind
  have mE := Tryd.methodElem
  have mI := Tryd.methodImplements
  have kPP := Tryd.kindPP
  have kP := Tryd.kindP
  have ePP := Tryd.elemPP
  have iP := Tryd.implementsP
  have nA := Tryd.noAsB
  have uB := Tryd.hasUnwrapB
  have mU := Tryd.methodUnwrapB
  have n8 := Tryd.isNilPP ⟨w.heap.size, 0, none⟩ t ((w.alloc (.cells #[.pointer (some t)] 90)).alloc (.cells #[.pointer (some ⟨8, 90, none⟩), .pointer (some ⟨w.heap.size, 0, none⟩), .int .u64 150] 115)) (by simp)
  have hlt := cell_lt hg
  have hql := cell_lt hq0
  have htl : t.block < w.heap.size := by
    rcases Nat.lt_or_ge t.block w.heap.size with h | h
    · exact h
    · simp [World.cell?, Array.getElem?_eq_none h] at ht0
  have hg2 : ((w.alloc (.cells #[.pointer (some t)] 90)).alloc (.cells #[.pointer (some ⟨8, 90, none⟩), .pointer (some ⟨w.heap.size, 0, none⟩), .int .u64 150] 115)).cell? ⟨7, 0, none⟩ = some (.iface 137 (.agg #[.pointer (some ⟨8, 23, none⟩)])) := by
    rw [World.cell?_alloc_lt _ _ ⟨7, 0, none⟩ (by simp; omega), World.cell?_alloc_lt _ _ ⟨7, 0, none⟩ hlt]; exact hg
  have hq2 : (((w.alloc (.cells #[.pointer (some t)] 90)).alloc (.cells #[.pointer (some ⟨8, 90, none⟩), .pointer (some ⟨w.heap.size, 0, none⟩), .int .u64 150] 115)).alloc (.cells #[.pointer (some ⟨8, 90, none⟩), .pointer (some ⟨w.heap.size, 0, none⟩), .int .u64 150] 115)).cell? ⟨q, 0, none⟩ = some (.pointer (some e)) := by
    rw [World.cell?_alloc_lt _ _ ⟨q, 0, none⟩ (by simp; omega), World.cell?_alloc_lt _ _ ⟨q, 0, none⟩ (by simp; omega), World.cell?_alloc_lt _ _ ⟨q, 0, none⟩ hql]; exact hq0
  have el := Tryd.elemVPP ⟨w.heap.size, 0, none⟩ t (((w.alloc (.cells #[.pointer (some t)] 90)).alloc (.cells #[.pointer (some ⟨8, 90, none⟩), .pointer (some ⟨w.heap.size, 0, none⟩), .int .u64 150] 115)).alloc (.cells #[.pointer (some ⟨8, 90, none⟩), .pointer (some ⟨w.heap.size, 0, none⟩), .int .u64 150] 115)) (by rw [World.cell?_alloc_lt _ _ ⟨w.heap.size, 0, none⟩ (by simp; omega)]; simp)
  have st := Tryd.setP t ⟨w.heap.size + 1 + 1 + 1, 0, none⟩ e old ((((w.alloc (.cells #[.pointer (some t)] 90)).alloc (.cells #[.pointer (some ⟨8, 90, none⟩), .pointer (some ⟨w.heap.size, 0, none⟩), .int .u64 150] 115)).alloc (.cells #[.pointer (some ⟨8, 90, none⟩), .pointer (some ⟨w.heap.size, 0, none⟩), .int .u64 150] 115)).alloc (.cells #[.pointer (some e)] 25))
    (by rw [World.cell?_alloc_at _ _ _ _ (by simp)]; rfl)
    (by rw [World.cell?_alloc_lt _ _ t (by simp; omega), World.cell?_alloc_lt _ _ t (by simp; omega), World.cell?_alloc_lt _ _ t (by simp; omega), World.cell?_alloc_lt _ _ t htl]; exact ht0)
    (by rw [World.frozen?_alloc_old _ _ t (by simp; omega), World.frozen?_alloc_old _ _ t (by simp; omega), World.frozen?_alloc_old _ _ t (by simp; omega), World.frozen?_alloc_old _ _ t (Nat.ne_of_lt htl)]; exact hf0)
  go_enter Tryd.func43, Tryd.ntmps43
  go_wp2
  refine wp_loop_rounds 2 ?_
  rw [rounds_succ]
  go_wp2
  rw [rounds_succ]
  go_wp2
  go_ret
  exact ⟨rfl, rfl⟩
end Go.Proofs.YtafkpmjifgohcaaDoor

namespace Go.Proofs.YtafkpmjifgohcaaDoor
open Go.RowKit

/-- The type of errors, as errors.As finds it. -/
def ErrT (w : World) : Prop := w.cell? ⟨7, 0, none⟩ = some (.iface 137 (.agg #[.pointer (some ⟨8, 23, none⟩)]))
theorem ErrT.below {w w' : World} (h : ErrT w) (hb : Below w.heap.size w w') : ErrT w' := (hb.cell (p := ⟨7, 0, none⟩) (cell_lt h)).trans h

theorem BadErr.below {w w' : World} {B C : Nat} {e : Value} {k : Nat} {aw : Addr} (h : BadErr w B e k aw) (hb : Below C w w') (hC : w.heap.size ≤ C) : BadErr w' B e k aw := by
  obtain ⟨q, p, f, he, h1, h2, h3, h4⟩ := h
  refine ⟨q, p, f, he, h1, h2, (hb.block q ?_).trans h3, (hb.block p ?_).trans h4⟩
  · rcases Nat.lt_or_ge q w.heap.size with c | c
    · omega
    · simp [Array.getElem?_eq_none c] at h3
  · rcases Nat.lt_or_ge p w.heap.size with c | c
    · omega
    · simp [Array.getElem?_eq_none c] at h4
theorem BadErr.mono {w : World} {B C : Nat} {e : Value} {k : Nat} {aw : Addr} (h : BadErr w B e k aw) (hC : C ≤ B) : BadErr w C e k aw := by
  obtain ⟨q, p, f, he, h1, h2, h3, h4⟩ := h
  exact ⟨q, p, f, he, by omega, by omega, h3, h4⟩

/-- errors.As sets the new variable; all else that was there stays. -/
theorem as_badErr (B k : Nat) (aw : Addr) (e : Value) (w0 W : World) (he : BadErr w0 B e k aw) (hg : ErrT w0) (hW : Below w0.heap.size w0 W) (ht : W.heap[w0.heap.size]? = some (.cells #[.pointer none] 25 (0, 0))) :
    Calls Tryd.prog 43 #[e, .iface 90 (.pointer (some ⟨w0.heap.size, 0, none⟩))] W fun ev w' => ev = .returned (.bool true) ∧ Below w0.heap.size w0 w' ∧
      ∃ p : Nat, p < w0.heap.size ∧ w'.cell? ⟨w0.heap.size, 0, none⟩ = some (.pointer (some ⟨p, 0, none⟩)) ∧ w'.cell? ⟨p, 0, none⟩ = some (.int .i64 k) ∧ w'.cell? ⟨p, 1, none⟩ = some (.iface 170 (.pointer (some aw))) := by
  obtain ⟨q, p, f, rfl, h1, h2, h3, h4⟩ := he
  have hq : q < w0.heap.size := by
    rcases Nat.lt_or_ge q w0.heap.size with c | c
    · exact c
    · simp [Array.getElem?_eq_none c] at h3
  have hp : p < w0.heap.size := by
    rcases Nat.lt_or_ge p w0.heap.size with c | c
    · exact c
    · simp [Array.getElem?_eq_none c] at h4
  have hct : W.cell? ⟨w0.heap.size, 0, none⟩ = some (.pointer none) := by simp [World.cell?, ht]
  refine (as_bad q ⟨p, 0, none⟩ ⟨w0.heap.size, 0, none⟩ (.pointer none) W ((hW.cell (p := ⟨7, 0, none⟩) (cell_lt hg)).trans hg) ((hW.cell (p := ⟨q, 0, none⟩) hq).trans (by simp [World.cell?, h3])) hct (by simp [World.frozen?, ht])).mono ?_
  rintro ev w' ⟨rfl, rfl⟩
  have hsz := hW.size
  have htl : w0.heap.size < W.heap.size := cell_lt hct
  have hb : Below W.heap.size W ((((W.alloc (.cells #[.pointer (some ⟨w0.heap.size, 0, none⟩)] 90)).alloc (.cells #[.pointer (some ⟨8, 90, none⟩), .pointer (some ⟨W.heap.size, 0, none⟩), .int .u64 150] 115)).alloc (.cells #[.pointer (some ⟨8, 90, none⟩), .pointer (some ⟨W.heap.size, 0, none⟩), .int .u64 150] 115)).alloc (.cells #[.pointer (some ⟨p, 0, none⟩)] 25)) :=
    ((((Below.refl _ _).alloc (Nat.le_refl _) _).alloc (by simp) _).alloc (by simp; omega) _).alloc (by simp; omega) _
  generalize ((((W.alloc (.cells #[.pointer (some ⟨w0.heap.size, 0, none⟩)] 90)).alloc (.cells #[.pointer (some ⟨8, 90, none⟩), .pointer (some ⟨W.heap.size, 0, none⟩), .int .u64 150] 115)).alloc (.cells #[.pointer (some ⟨8, 90, none⟩), .pointer (some ⟨W.heap.size, 0, none⟩), .int .u64 150] 115)).alloc (.cells #[.pointer (some ⟨p, 0, none⟩)] 25)) = W4 at hb ⊢
  have hB : Below w0.heap.size w0 (W4.setCell ⟨w0.heap.size, 0, none⟩ (.pointer (some ⟨p, 0, none⟩))) := (hW.trans (hb.mono hsz)).setCell (Nat.le_refl _) _
  refine ⟨rfl, hB, p, hp, World.cell?_setCell_same _ _ _ ((hb.cell (p := ⟨w0.heap.size, 0, none⟩) htl).trans hct), (hB.cell (p := ⟨p, 0, none⟩) hp).trans (by simp [World.cell?, h4]), (hB.cell (p := ⟨p, 1, none⟩) hp).trans (by simp [World.cell?, h4])⟩

set_option maxHeartbeats 1000000 in
theorem damagedBlock_nil (w : World) :
    Calls Tryd.prog 42 #[.nilIface] w fun e w' => e = .returned (.tuple #[.int .i64 0, .bool false]) ∧ Below w.heap.size w w' := by
  go_enter Tryd.func42, Tryd.ntmps42
  go_wp2_with fail
  refine (as_nil _ _).mono ?_
  rintro e w1 ⟨rfl, hw1⟩
  rw [hw1]
  clear hw1 w1
  go_wp2
  go_ret2
  exact ⟨rfl, (Below.refl _ _).alloc (Nat.le_refl _) _⟩

set_option maxHeartbeats 1000000 in
theorem damagedBlock_bad (B k : Nat) (aw : Addr) (v : Value) (w : World) (he : BadErr w B v k aw) (hg : ErrT w) :
    Calls Tryd.prog 42 #[v] w fun e w' => e = .returned (.tuple #[.int .i64 k, .bool true]) ∧ Below w.heap.size w w' := by
  have HE : Hid (BadErr w B v k aw) := he
  have HG : Hid (ErrT w) := hg
  obtain ⟨q, p, f, hv, _⟩ := he
  clear hg
  subst hv
  go_enter Tryd.func42, Tryd.ntmps42
  go_wp2_with fail
  refine (as_badErr B k aw _ w _ HE.out HG.out ((Below.refl _ _).alloc (Nat.le_refl _) _) (heap_alloc_new _ _)).mono ?_
  rintro e w1 ⟨rfl, hb, p', hp', c0, c1, c2⟩
  have HB : Hid (Below w.heap.size w w1) := hb
  clear hb
  go_wp2
  go_ret2
  exact ⟨rfl, HB.out⟩
end Go.Proofs.YtafkpmjifgohcaaDoor
