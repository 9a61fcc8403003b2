import Derived.Test.YtgnfknjopafngaaGreatDoorFmG
import Derived.Test.YtgnfknjopafngaaGreatDoorFmB
import Derived.LaidEql
import Derived.Stop.Asserts
import Derived.RowKitTokens
import Derived.Lib.IfaceEq
import Derived.Lib.ReflectliteSlice
/-
  THE LAW OF FORMS, WALKED over what the program's Read is known to answer.
-/
namespace Go.Proofs.YtgnfknjopafngaaGreatDoor
open Go.RowKit

/-- What the program's Read has to leave: the document's answer. -/
def CodePost (s : ByteArray) (w : World) (e : Ending) (w' : World) : Prop :=
  ∃ (T N : ByteArray) (a b c : Nat), e = .returned (.tuple #[.string T, .agg #[.int .i64 a, .int .i64 b, .int .i64 c, .string N]]) ∧ Below w.heap.size w w' ∧
    (∀ n, readB s = .inl n → T = ⟨#[]⟩ ∧ N = ⟨#[]⟩ ∧ a = 1 ∧ b = 0 ∧ c = n) ∧ ∀ p, readB s = .inr p → a = 0 ∧ T.data.toList = M.printS p

theorem PkVal.belowL {w w' : World} {p : M.Pk} {v : Value} (h : PkVal w p v) (hb : Below w.heap.size w w') : PkVal w' p v := by
  obtain ⟨nv, bv, fv, e, h1, h2, h3⟩ := h
  have kk : ∀ g o, 0 ≤ g → g < w.heap.size → w'.cell? ⟨g, o, none⟩ = w.cell? ⟨g, o, none⟩ := fun g o _ hg => hb.cell (p := ⟨g, o, none⟩) hg
  exact ⟨nv, bv, fv, e, (h1.keep kk).wide (Nat.le_refl _) hb.size, (h2.keep kk).wide (Nat.le_refl _) hb.size, (h3.keep kk).wide (Nat.le_refl _) hb.size⟩
theorem bytes_same {a b : ByteArray} (h : a.data.toList = b.data.toList) : a = b := by
  cases a with
  | mk x =>
    cases b with
    | mk y => exact congrArg ByteArray.mk (Array.toList_inj.mp h)

set_option maxRecDepth 100000 in
set_option maxHeartbeats 1000000 in
theorem sameFault_form (n : Nat) (w : World) :
    Calls Tryz.prog 15 #[.agg #[.int .i64 1, .int .i64 0, .int .i64 n, .string ⟨#[]⟩], .agg #[.int .i64 1, .int .i64 0, .int .i64 n, .string ⟨#[]⟩]] w fun e w' => e = .returned (.bool true) ∧ Below w.heap.size w w' := by
  go_enter Tryz.func15, Tryz.ntmps15
  go_wp2
  go_ret
  exact ⟨rfl, ((Below.refl _ w).alloc (Nat.le_refl _) _).alloc (by simp) _⟩

set_option maxRecDepth 100000 in
set_option maxHeartbeats 1000000 in
theorem forms_law (s : ByteArray) (w : World) (hcode : s.size ≤ 8192 → Calls Tryz.prog 13 #[.string s] w (CodePost s w)) (hs : s.size ≤ 140737488355327) :
    Calls Tryz.prog 3 #[.string s] w fun e w' => e = .returned (.bool true) ∧ Below w.heap.size w w' := by
  by_cases h : 8192 < s.size
  · go_enter Tryz.func3, Tryz.ntmps3
    go_wp2
    refine bodyPost_ret (v := .bool true) (by simp [results, Tryz.results3, go_sem]) rfl ⟨rfl, Below.refl _ _⟩
  · have cC := hcode (by omega)
    clear hcode
    go_enter Tryz.func3, Tryz.ntmps3
    go_wp2_with fail
    refine cC.mono ?_
    rintro e w1 ⟨T, N, a, b, c, rfl, hB, hno, hyes⟩
    clear cC
    have cR := refRead_any s (w1.alloc (.cells #[.int .i64 a, .int .i64 b, .int .i64 c, .string N] 23)) (by omega)
    go_wp2_with fail
    refine cR.mono ?_
    rintro e w2 ⟨v, rfl, hv, ⟨xa, xb, x1, n1, c1, x2, n2, c2, x3, n3, c3, rfl⟩, hB2⟩
    have hzw : w1.heap.size < w2.heap.size := by have := hB2.size; simp at this; omega
    obtain ⟨hcl, hfz⟩ := bcell hB2
    have k0 : ∀ o u, [Value.int .i64 a, .int .i64 b, .int .i64 c, .string N][o]? = some u → w2.cell? ⟨w1.heap.size, o, none⟩ = some u := fun o u hu => (hcl w1.heap.size o (by simp)).trans (new_at w1 _ _ o u hu)
    have z0 := k0 0 _ rfl
    have z1 := k0 1 _ rfl
    have z2 := k0 2 _ rfl
    have z3 := k0 3 _ rfl
    have HB : Hid (Below w.heap.size w w2) := hB.trans ((((Below.refl _ w1).alloc (Nat.le_refl _) _).trans (hB2.mono (by simp))).mono hB.size)
    clear k0 hcl hfz cR hB hB2
    cases hr : readB s with
    | inl n =>
      obtain ⟨rfl, rfl, rfl, rfl, rfl⟩ := hno n hr
      have el : lineOf (Sum.inl c : Sum Nat M.Pk) = (c : Int) := rfl
      rw [el]
      have hc0 : (0 : Int) ≤ c := by omega
      have cS := fun W => sameFault_form c W
      clear hno hyes hv hr
      go_wp2_with fail
      refine (cS _).mono ?_
      rintro e w3 ⟨rfl, hB3⟩
      go_wp2
      go_ret
      exact ⟨rfl, HB.out.trans ((((Below.refl _ w2).alloc (Nat.le_refl _) _).trans (hB3.mono (by simp))).mono HB.out.size)⟩
    | inr p =>
      obtain ⟨rfl, hT⟩ := hyes p hr
      have el : lineOf (Sum.inr p : Sum Nat M.Pk) = (-1 : Int) := rfl
      rw [el]
      have hP := (hv p hr).val
      have hSh := readS_short (s := s.data.toList) hr
      have cP := fun W hW => print_any p (.agg #[.string xa, .string xb, .slice x1 n1 c1, .slice x2 n2 c2, .slice x3 n3 c3]) W (hP.belowL hW) hSh
      clear hno hyes hv hr
      go_wp2_with fail
      refine (cP _ ?_).mono ?_
      · exact (Below.refl _ w2).alloc (Nat.le_refl _) _
      rintro e w3 ⟨S, rfl, hS, hB3⟩
      obtain rfl : T = S := bytes_same (hT.trans hS.symm)
      have HBF : Hid (Below w.heap.size w w3) := HB.out.trans ((((Below.refl _ w2).alloc (Nat.le_refl _) _).trans (hB3.mono (by simp))).mono HB.out.size)
      have y0 : w3.cell? ⟨w1.heap.size, 0, none⟩ = some (.int .i64 0) := (hB3.cell (p := ⟨w1.heap.size, 0, none⟩) (by simp; omega)).trans ((((Below.refl _ w2).alloc (Nat.le_refl _) _).cell (p := ⟨w1.heap.size, 0, none⟩) hzw).trans z0)
      clear z0 hS hT hB3 cP hP
      go_wp2
      go_ret
      exact ⟨rfl, HBF.out⟩
end Go.Proofs.YtgnfknjopafngaaGreatDoor
/-
  errors.Is of an *api.Fault against an api.Errno, errors.As of an *api.Fault into a **api.Fault (after the guides' worked proofs, at this program's numbers).
-/
namespace Go.Proofs.YtgnfknjopafngaaGreatDoor
open Go.RowKit Go.Extern.Stop Go.Stop Go.Extern

/-- The model's entry for a function that the program does not tell itself. -/
def entry (fn : Func) : Array Value → Sem Value := (Extern.find fn).getD fun _ => pure (.bool false)
theorem callE {P : Program} {f : FuncId} {fn : Func} (hf : P.funcs[f]? = some fn) (hname : (fn.name == "runtime.NumGoroutine") = false)
    (hb : fn.body.isNone = true) (hn : Extern.findNext fn = none) (hs : (Extern.find fn).isSome = true) (args : Array Value) (w : World) :
    (callFunc f args).run P w = ((entry fn args).run P w).andThen fun v w' => .ok (.value v) w' := by
  obtain ⟨e, he⟩ := Option.isSome_iff_exists.mp hs
  have : entry fn = e := by unfold entry; rw [he]; rfl
  rw [this]
  exact run_callFunc_extern hf hname hb hn he args w
theorem fTypeOf (v : Value) (w : World) : (entry Tryz.f99 #[.iface 115 v]).run Tryz.prog w = .ok (.iface 221 (.agg #[.pointer (some ⟨4, 115, none⟩)])) w := by kernel_rfl
theorem fComparable (w : World) : (entry Tryz.f333 #[.agg #[.pointer (some ⟨4, 115, none⟩)]]).run Tryz.prog w = .ok (.bool true) w := by kernel_rfl
theorem fMethodComparable (v : Value) (w : World) : (Go.method 481 221 v "Comparable").run Tryz.prog w = .ok (333, v) w := by kernel_rfl
theorem fComp : (Tryz.prog.info? 115).map (·.comparable) = some true := by kernel_rfl
theorem noIsE (v : Value) (xT : TypeId) (w : World) : (Instr.typeAssert (.iface 115 v) xT 233 true).run Tryz.prog w = .ok (.tuple #[.nilIface, .bool false]) w := run_typeAssert_lacksB Tryz.underlying233 (by kernel_rfl) (by kernel_rfl) v xT w
theorem noUnwrapE (v : Value) (xT : TypeId) (w : World) : (Instr.typeAssert (.iface 115 v) xT 228 true).run Tryz.prog w = .ok (.tuple #[.nilIface, .bool false]) w := run_typeAssert_lacksB Tryz.underlying228 (by kernel_rfl) (by kernel_rfl) v xT w
theorem noUnwrapsE (v : Value) (xT : TypeId) (w : World) : (Instr.typeAssert (.iface 115 v) xT 230 true).run Tryz.prog w = .ok (.tuple #[.nilIface, .bool false]) w := run_typeAssert_lacksB Tryz.underlying230 (by kernel_rfl) (by kernel_rfl) v xT w
theorem noIsF (v : Value) (xT : TypeId) (w : World) : (Instr.typeAssert (.iface 112 v) xT 233 true).run Tryz.prog w = .ok (.tuple #[.nilIface, .bool false]) w := run_typeAssert_lacksB Tryz.underlying233 (by kernel_rfl) (by kernel_rfl) v xT w
theorem hasUnwrapF (v : Value) (xT : TypeId) (w : World) : (Instr.typeAssert (.iface 112 v) xT 228 true).run Tryz.prog w = .ok (.tuple #[.iface 112 v, .bool true]) w := run_typeAssert_hasB Tryz.underlying228 (by kernel_rfl) v xT w
theorem methodUnwrapF (v : Value) (w : World) : (Go.method 481 112 v "Unwrap").run Tryz.prog w = .ok (325, v) w := by kernel_rfl

set_option maxRecDepth 100000 in
set_option maxHeartbeats 4000000 in
/-- errors.Is of a Fault: it is its kind. -/
theorem is_kind (pb : Nat) (a k : Nat) (w : World) (hc : w.cell? ⟨pb, 0, none⟩ = some (.int .i64 a)) :
    Calls Tryz.prog 58 #[.iface 112 (.pointer (some ⟨pb, 0, none⟩)), .iface 115 (.int .i64 k)] w fun e w' => e = .returned (.bool (decide ((a : Int) = k))) ∧ w' = w := by
  have h8 := @callE Tryz.prog 99 _ Tryz.func99 (by kernel_rfl) (by kernel_rfl) (by kernel_rfl) (by kernel_rfl)
  have h32 := @callE Tryz.prog 333 _ Tryz.func333 (by kernel_rfl) (by kernel_rfl) (by kernel_rfl) (by kernel_rfl)
  have tT := fTypeOf
  have cT := fComparable
  have mR := fMethodComparable
  have nE := noIsE
  have uE := noUnwrapE
  have vE := noUnwrapsE
  have nF := noIsF
  have uF := hasUnwrapF
  have mU := methodUnwrapF
  have hty := run_eql_iface_types (P := Tryz.prog) 112 115 (.pointer (some ⟨pb, 0, none⟩)) (.int .i64 k) Tryz.underlying67 (by decide) w
  have heq := Go.Lib.run_eql_iface_int (P := Tryz.prog) (k := .i64) w (a : Int) (k : Int) Tryz.underlying67 fComp Tryz.underlying115
  by_cases hk : (a : Int) = k
  · rw [show ((a : Int) == (k : Int)) = true by simpa using hk] at heq
    have HD : Hid (decide ((a : Int) = k) = true) := by show _ = _; simpa using hk
    clear hk
    go_enter Tryz.func58, Tryz.ntmps58
    go_wp2
    refine wp_loop_rounds 2 ?_
    rw [rounds_succ]
    go_wp2
    rw [rounds_succ]
    go_wp2
    go_ret
    exact ⟨by rw [HD.out]; rfl, rfl⟩
  · rw [show ((a : Int) == (k : Int)) = false by simpa using hk] at heq
    have HD : Hid (decide ((a : Int) = k) = false) := by show _ = _; simpa using hk
    clear hk
    go_enter Tryz.func58, Tryz.ntmps58
    go_wp2
    refine wp_loop_rounds 2 ?_
    rw [rounds_succ]
    go_wp2
    rw [rounds_succ]
    go_wp2
    go_ret
    exact ⟨by rw [HD.out]; rfl, rfl⟩
end Go.Proofs.YtgnfknjopafngaaGreatDoor
/-
  errors.As of an *api.Fault into a **api.Fault (after the guides' worked proof, at this program's numbers).
-/
namespace Go.Proofs.YtgnfknjopafngaaGreatDoor
open Go.RowKit Go.Extern.Stop Go.Stop Go.Extern

theorem as_nil (t : Value) (w : World) :
    Calls Tryz.prog 57 #[.nilIface, t] w fun e w' => e = .returned (.bool false) ∧ w' = w := by
  go_enter Tryz.func57, Tryz.ntmps57
  go_wp2
  go_ret
  exact ⟨rfl, rfl⟩

abbrev hdl (t : Nat) : Value := .pointer (some ⟨4, t, none⟩)
theorem gValueOfPP (t : Addr) (w : World) : (entry Tryz.f95 #[.iface 114 (.pointer (some t))]).run Tryz.prog w
    = .ok (.agg #[.pointer (some ⟨4, 114, none⟩), .pointer (some ⟨w.heap.size, 0, none⟩), .int .u64 150]) (w.alloc (.cells #[.pointer (some t)] 114)) := by kernel_rfl
theorem gValueOfP (e : Addr) (w : World) : (entry Tryz.f95 #[.iface 112 (.pointer (some e))]).run Tryz.prog w
    = .ok (.agg #[.pointer (some ⟨4, 112, none⟩), .pointer (some ⟨w.heap.size, 0, none⟩), .int .u64 150]) (w.alloc (.cells #[.pointer (some e)] 112)) := by kernel_rfl
theorem gType (a : Addr) (w : World) : (entry Tryz.f96 #[.agg #[.pointer (some ⟨4, 114, none⟩), .pointer (some a), .int .u64 150]]).run Tryz.prog w
    = .ok (.iface 221 (.agg #[.pointer (some ⟨4, 114, none⟩)])) w := by kernel_rfl
theorem gMethodKind (h : Value) (w : World) : (Go.method 481 221 (.agg #[h]) "Kind").run Tryz.prog w = .ok (316, h) w := by kernel_rfl
theorem gKindPP (w : World) : (entry Tryz.f316 #[.pointer (some ⟨4, 114, none⟩)]).run Tryz.prog w = .ok (.int .u8 22) w := by kernel_rfl
theorem gKindP (w : World) : (entry Tryz.f316 #[.pointer (some ⟨4, 112, none⟩)]).run Tryz.prog w = .ok (.int .u8 22) w := by kernel_rfl
theorem gMethodElem (h : Value) (w : World) : (Go.method 481 221 (.agg #[h]) "Elem").run Tryz.prog w = .ok (334, .agg #[h]) w := by kernel_rfl
theorem gMethodImplements (h : Value) (w : World) : (Go.method 481 221 (.agg #[h]) "Implements").run Tryz.prog w = .ok (335, .agg #[h]) w := by kernel_rfl
theorem gMethodAssignableTo (h : Value) (w : World) : (Go.method 481 221 (.agg #[h]) "AssignableTo").run Tryz.prog w = .ok (332, .agg #[h]) w := by kernel_rfl
theorem gElem (w : World) : (entry Tryz.f334 #[.agg #[.pointer (some ⟨4, 114, none⟩)]]).run Tryz.prog w = .ok (.iface 221 (.agg #[.pointer (some ⟨4, 112, none⟩)])) w := by kernel_rfl
theorem gImplements (w : World) : (entry Tryz.f335 #[.agg #[.pointer (some ⟨4, 112, none⟩)], .iface 221 (.agg #[.pointer (some ⟨4, 67, none⟩)])]).run Tryz.prog w = .ok (.bool true) w := by kernel_rfl
theorem gTypeOf (v : Value) (w : World) : (entry Tryz.f99 #[.iface 112 v]).run Tryz.prog w = .ok (.iface 221 (.agg #[.pointer (some ⟨4, 112, none⟩)])) w := by kernel_rfl
theorem gAssignable (w : World) : (entry Tryz.f332 #[.agg #[.pointer (some ⟨4, 112, none⟩)], .iface 221 (.agg #[.pointer (some ⟨4, 112, none⟩)])]).run Tryz.prog w = .ok (.bool true) w := by kernel_rfl
theorem gPartsPP (a : Addr) (w : World) : (ReflectliteValue.parts (.agg #[.pointer (some ⟨4, 114, none⟩), .pointer (some a), .int .u64 150])).run Tryz.prog w = .ok (some (114, a, 150)) w := by kernel_rfl
theorem gPartsA (a : Addr) (w : World) : (ReflectliteValue.parts (.agg #[.pointer (some ⟨4, 112, none⟩), .pointer (some a), .int .u64 406])).run Tryz.prog w = .ok (some (112, a, 406)) w := by kernel_rfl
theorem gParts (a : Addr) (w : World) : (ReflectliteValue.parts (.agg #[.pointer (some ⟨4, 112, none⟩), .pointer (some a), .int .u64 150])).run Tryz.prog w = .ok (some (112, a, 150)) w := by kernel_rfl
theorem gElemOf (w : World) : (Rtype.elem? 114).run Tryz.prog w = .ok (some 112) w := by kernel_rfl
theorem gMk (p : Addr) (w : World) : (ReflectliteValue.mk 112 p ReflectliteValue.flagAddr).run Tryz.prog w = .ok (.agg #[.pointer (some ⟨4, 112, none⟩), .pointer (some p), .int .u64 406]) w := by kernel_rfl
theorem gDirect (w : World) : (Rtype.directlyAssignable 112 112).run Tryz.prog w = .ok true w := by kernel_rfl
theorem gSize (w : World) : (sizeOf 112).run Tryz.prog w = .ok 1 w := by kernel_rfl
theorem eIsNil : entry Tryz.f97 = ReflectliteValue.method (ReflectliteValue.valueError "reflectlite.Value.IsNil" 0) ReflectliteValue.isNil := by kernel_rfl
theorem eElemV : entry Tryz.f145 = ReflectliteValue.method (ReflectliteValue.valueError "reflectlite.Value.Elem" 0) ReflectliteValue.elem := by kernel_rfl
theorem eSet : entry Tryz.f146 = ReflectliteValue.set := by kernel_rfl

theorem gIsNil (a p : Addr) (W : World) (ha : W.cell? a = some (.pointer (some p))) :
    (entry Tryz.f97 #[.agg #[.pointer (some ⟨4, 114, none⟩), .pointer (some a), .int .u64 150]]).run Tryz.prog W = .ok (.bool false) W := by
  rw [eIsNil]
  rw [Go.Lib.rl_method]
  simp only [Sem.run_bind, gPartsPP, Result.andThen]
  simp [ReflectliteValue.isNil, loadVar, isAgg, underlying, Tryz.underlying114, ha, Result.andThen]
theorem gElemV (a p : Addr) (W : World) (ha : W.cell? a = some (.pointer (some p))) :
    (entry Tryz.f145 #[.agg #[.pointer (some ⟨4, 114, none⟩), .pointer (some a), .int .u64 150]]).run Tryz.prog W
      = .ok (.agg #[.pointer (some ⟨4, 112, none⟩), .pointer (some p), .int .u64 406]) W := by
  rw [eElemV]
  rw [Go.Lib.rl_method]
  simp only [Sem.run_bind, gPartsPP, Result.andThen]
  simp [ReflectliteValue.elem, loadVar, isAgg, underlying, Tryz.underlying114, ha, Result.andThen, gElemOf, gMk]
theorem gSetRun (ta b : Addr) (W : World) :
    (entry Tryz.f146 #[.agg #[.pointer (some ⟨4, 112, none⟩), .pointer (some ta), .int .u64 406], .agg #[.pointer (some ⟨4, 112, none⟩), .pointer (some b), .int .u64 150]]).run Tryz.prog W
      = (do let v ← loadVar 112 b; storeVar 112 ta v; pure (.tuple #[]) : Sem Value).run Tryz.prog W := by kernel_rfl
theorem gSet (ta b e : Addr) (old : Value) (W : World) (hb : W.cell? b = some (.pointer (some e))) (ht : W.cell? ta = some old) (hf : W.frozen? ta = false) :
    (entry Tryz.f146 #[.agg #[.pointer (some ⟨4, 112, none⟩), .pointer (some ta), .int .u64 406], .agg #[.pointer (some ⟨4, 112, none⟩), .pointer (some b), .int .u64 150]]).run Tryz.prog W
      = .ok (.tuple #[]) (W.setCell ta (.pointer (some e))) := by
  rw [gSetRun]
  simp [loadVar, isAgg, underlying, Tryz.underlying112, hb, Result.andThen, storeVar, Value.cells, storeCells, Addr.add]
  rw [run_store Tryz.prog W ta _ _ (by rfl)]
  simp [ht, hf]
end Go.Proofs.YtgnfknjopafngaaGreatDoor
