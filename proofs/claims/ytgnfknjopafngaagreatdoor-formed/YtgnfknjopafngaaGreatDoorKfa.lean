import Derived.Lib.Bytealg
import Derived.WalkKit
import Derived.WalkSpells
import Derived.WalkLawsBesides
import Derived.WalkSmall
import Derived.Lib.Walk
import Derived.Lib.Strings
import Derived.Lib.IndexBytes
import Derived.Deep.DeepMust
import Derived.Deep.QuietTactic
import Derived.BigQuiet
import Derived.Shelf.Abstract
import Derived.Test.YtgnfknjopafngaaGreatDoorProg
import Derived.LaidEql
import Derived.Stop.Asserts
import Derived.RowKitTokens
import Derived.Lib.IfaceEq
import Derived.Lib.ReflectliteSlice
import Derived.RegionTactic
import Derived.BigRegion
namespace Go.Proofs.YtgnfknjopafngaaGreatDoor
namespace M
def isD (c : Int) : Bool := decide (48 ≤ c ∧ c ≤ 57)
def isNo (c : Int) : Bool := !isD c
def isSm (c : Int) : Bool := decide (97 ≤ c ∧ c ≤ 122)
def isLt (c : Int) : Bool := decide ((97 ≤ c ∧ c ≤ 122) ∨ (65 ≤ c ∧ c ≤ 90))
def cmpI (x y : Int) : Int := if x < y then -1 else if y < x then 1 else 0
def rk (c : Int) : Int := if c = 126 then -1 else if isLt c = true then c else 256 + c
def lead (p : Int → Bool) (l : List UInt8) : Nat := (l.takeWhile (fun b => p b.toNat)).length
theorem isD_t {c : Int} (h : 48 ≤ c) (k : c ≤ 57) : isD c = true := by unfold isD; simp; omega
theorem isD_f1 {c : Int} (h : c < 48) : isD c = false := by unfold isD; simp; omega
theorem isD_f2 {c : Int} (h : 57 < c) : isD c = false := by unfold isD; simp; omega
theorem lead_le (p : Int → Bool) (l : List UInt8) : lead p l ≤ l.length := by
  unfold lead; exact (List.takeWhile_sublist _).length_le
theorem lead_cons (p : Int → Bool) (b : UInt8) (l : List UInt8) : lead p (b :: l) = if p b.toNat = true then lead p l + 1 else 0 := by
  unfold lead
  simp only [List.takeWhile_cons]
  by_cases h : p b.toNat = true <;> simp [h]
theorem lead_eq {p : Int → Bool} : ∀ {l : List UInt8} {k : Nat}, (∀ j (h : j < l.length), j < k → p (l[j]).toNat = true) → k ≤ l.length → (∀ (h : k < l.length), p (l[k]).toNat = false) → lead p l = k
  | [], k, _, hk, _ => by simp at hk; subst hk; rfl
  | b :: l, 0, _, _, hn => by
    rw [lead_cons]
    have := hn (by simp)
    simp at this
    simp [this]
  | b :: l, k + 1, ha, hk, hn => by
    rw [lead_cons]
    have h0 := ha 0 (by simp) (by omega)
    simp at h0
    rw [if_pos h0, lead_eq (l := l) (k := k) (fun j h hj => ha (j + 1) (by simpa using h) (by omega)) (by simpa using hk) (fun h => hn (by simpa using h))]
def strip (l : List UInt8) : List UInt8 := l.dropWhile (fun b => b == 48)
end M
end Go.Proofs.YtgnfknjopafngaaGreatDoor
namespace Go.Proofs.YtgnfknjopafngaaGreatDoor
open Go.RowKit
theorem ret_bool {a b : Bool} (h : a = b) : Ending.returned (.bool a) = .returned (.bool b) := by rw [h]
theorem ret_int {k : IntKind} {a b : Int} (h : a = b) : Ending.returned (.int k a) = .returned (.int k b) := by rw [h]
theorem ret_str {a b : ByteArray} (h : a = b) : Ending.returned (.string a) = .returned (.string b) := by rw [h]
theorem bytes_of {s t : ByteArray} (h : s.data.toList = t.data.toList) : s = t := by
  obtain ⟨⟨a⟩⟩ := s; obtain ⟨⟨b⟩⟩ := t
  simp at h; rw [h]
theorem mk_toList (l : List UInt8) : (ByteArray.mk l.toArray).data.toList = l := rfl
theorem ext_from (s : ByteArray) (k : Nat) : (s.extract k s.size).data.toList = s.data.toList.drop k := Lib.extract_to_end s k
theorem ext_upto (s : ByteArray) (k : Nat) : (s.extract 0 k).data.toList = s.data.toList.take k := by rw [Lib.extract_data]; simp
theorem ext_size (s : ByteArray) (i j : Nat) : (s.extract i j).size ≤ s.size := by simp; omega
def lenOf : Value → Nat
  | .string t => t.size
  | _ => 0
theorem quiet_add {P : Program} {f : FuncId} {args : Array Value} {w : World} {n k : Nat} {v : Value}
    (h : Calls P f args (w.drewN (n + k)) fun e w' => e = .returned v ∧ w' = w.drewN (n + k)) : Calls P f args (w.drewN (n + k)) fun e w'' => e = .returned v ∧ ∃ m, w'' = w.drewN (n + m) :=
  h.mono fun _ _ ⟨he, hm⟩ => ⟨he, k, hm⟩
theorem drewN_add (w : World) (n k : Nat) : (w.drewN n).drewN k = w.drewN (n + k) := by simp [World.drewN, Nat.add_assoc]
theorem below_same (w : World) (n : Nat) : Below w.heap.size w (w.drewN n) := below_drewN (Below.refl _ _) n
theorem bt {w wr w' : World} (h : Below w.heap.size w wr) (k : Below wr.heap.size wr w') : Below w.heap.size w w' := h.trans (k.mono h.size)
theorem one_new (w : World) (x : Value) (t : TypeId) : ∀ j u, [x][j]? = some u → (w.alloc (.cells #[x] t)).cell? ((⟨w.heap.size, 0, none⟩ : Addr).add j) = some u := by
  intro j u hj
  cases j with
  | zero => simp at hj; subst hj; simp [Addr.add]
  | succ j => simp at hj
end Go.Proofs.YtgnfknjopafngaaGreatDoor
namespace Go.Proofs.YtgnfknjopafngaaGreatDoor
open Go.RowKit Go.Extern.Stop Go.Stop Go.Extern
def entry (fn : Func) : Array Value → Sem Value := (Extern.find fn).getD fun _ => pure (.bool false)
theorem callE {P : Program} {f : FuncId} {fn : Func} (hf : P.funcs[f]? = some fn) (hname : (fn.name == "runtime.NumGoroutine") = false)
    (hb : fn.body.isNone = true) (hn : Extern.findNext fn = none) (hs : (Extern.find fn).isSome = true) (args : Array Value) (w : World) :
    (callFunc f args).run P w = ((entry fn args).run P w).andThen fun v w' => .ok (.value v) w' := by
  obtain ⟨e, he⟩ := Option.isSome_iff_exists.mp hs
  have : entry fn = e := by unfold entry; rw [he]; rfl
  rw [this]
  exact run_callFunc_extern hf hname hb hn he args w
theorem fTypeOf (v : Value) (w : World) : (entry Tryz.f99 #[.iface 115 v]).run Tryz.prog w = .ok (.iface 221 (.agg #[.pointer (some ⟨4, 115, none⟩)])) w := by kernel_rfl
theorem fComparable (w : World) : (entry Tryz.f333 #[.agg #[.pointer (some ⟨4, 115, none⟩)]]).run Tryz.prog w = .ok (.bool true) w := by kernel_rfl
theorem fMethodComparable (v : Value) (w : World) : (Go.method 481 221 v "Comparable").run Tryz.prog w = .ok (333, v) w := by kernel_rfl
theorem fComp : (Tryz.prog.info? 115).map (·.comparable) = some true := by kernel_rfl
theorem noIsE (v : Value) (xT : TypeId) (w : World) : (Instr.typeAssert (.iface 115 v) xT 233 true).run Tryz.prog w = .ok (.tuple #[.nilIface, .bool false]) w := run_typeAssert_lacksB Tryz.underlying233 (by kernel_rfl) (by kernel_rfl) v xT w
theorem noUnwrapE (v : Value) (xT : TypeId) (w : World) : (Instr.typeAssert (.iface 115 v) xT 228 true).run Tryz.prog w = .ok (.tuple #[.nilIface, .bool false]) w := run_typeAssert_lacksB Tryz.underlying228 (by kernel_rfl) (by kernel_rfl) v xT w
theorem noUnwrapsE (v : Value) (xT : TypeId) (w : World) : (Instr.typeAssert (.iface 115 v) xT 230 true).run Tryz.prog w = .ok (.tuple #[.nilIface, .bool false]) w := run_typeAssert_lacksB Tryz.underlying230 (by kernel_rfl) (by kernel_rfl) v xT w
theorem noIsF (v : Value) (xT : TypeId) (w : World) : (Instr.typeAssert (.iface 112 v) xT 233 true).run Tryz.prog w = .ok (.tuple #[.nilIface, .bool false]) w := run_typeAssert_lacksB Tryz.underlying233 (by kernel_rfl) (by kernel_rfl) v xT w
theorem hasUnwrapF (v : Value) (xT : TypeId) (w : World) : (Instr.typeAssert (.iface 112 v) xT 228 true).run Tryz.prog w = .ok (.tuple #[.iface 112 v, .bool true]) w := run_typeAssert_hasB Tryz.underlying228 (by kernel_rfl) v xT w
theorem methodUnwrapF (v : Value) (w : World) : (Go.method 481 112 v "Unwrap").run Tryz.prog w = .ok (325, v) w := by kernel_rfl
set_option maxRecDepth 100000 in
set_option maxHeartbeats 4000000 in
theorem is_kind (pb : Nat) (a k : Nat) (w : World) (hc : w.cell? ⟨pb, 0, none⟩ = some (.int .i64 a)) :
    Calls Tryz.prog 58 #[.iface 112 (.pointer (some ⟨pb, 0, none⟩)), .iface 115 (.int .i64 k)] w fun e w' => e = .returned (.bool (decide ((a : Int) = k))) ∧ w' = w := by
  have h8 := @callE Tryz.prog 99 _ Tryz.func99 (by kernel_rfl) (by kernel_rfl) (by kernel_rfl) (by kernel_rfl)
  have h32 := @callE Tryz.prog 333 _ Tryz.func333 (by kernel_rfl) (by kernel_rfl) (by kernel_rfl) (by kernel_rfl)
  have tT := fTypeOf
  have cT := fComparable
  have mR := fMethodComparable
  have nE := noIsE
  have uE := noUnwrapE
  have vE := noUnwrapsE
  have nF := noIsF
  have uF := hasUnwrapF
  have mU := methodUnwrapF
  have hty := run_eql_iface_types (P := Tryz.prog) 112 115 (.pointer (some ⟨pb, 0, none⟩)) (.int .i64 k) Tryz.underlying67 (by decide) w
  have heq := Go.Lib.run_eql_iface_int (P := Tryz.prog) (k := .i64) w (a : Int) (k : Int) Tryz.underlying67 fComp Tryz.underlying115
  by_cases hk : (a : Int) = k
  · rw [show ((a : Int) == (k : Int)) = true by simpa using hk] at heq
    have HD : Hid (decide ((a : Int) = k) = true) := by show _ = _; simpa using hk
    clear hk
    go_enter Tryz.func58, Tryz.ntmps58
    go_wp2
    refine wp_loop_rounds 2 ?_
    rw [rounds_succ]
    go_wp2
    rw [rounds_succ]
    go_wp2
    go_ret
    exact ⟨by rw [HD.out]; rfl, rfl⟩
  · rw [show ((a : Int) == (k : Int)) = false by simpa using hk] at heq
    have HD : Hid (decide ((a : Int) = k) = false) := by show _ = _; simpa using hk
    clear hk
    go_enter Tryz.func58, Tryz.ntmps58
    go_wp2
    refine wp_loop_rounds 2 ?_
    rw [rounds_succ]
    go_wp2
    rw [rounds_succ]
    go_wp2
    go_ret
    exact ⟨by rw [HD.out]; rfl, rfl⟩
end Go.Proofs.YtgnfknjopafngaaGreatDoor
namespace Go.Proofs.YtgnfknjopafngaaGreatDoor
open Go.RowKit Go.Extern.Stop Go.Stop Go.Extern
theorem as_nil (t : Value) (w : World) :
    Calls Tryz.prog 57 #[.nilIface, t] w fun e w' => e = .returned (.bool false) ∧ w' = w := by
  go_enter Tryz.func57, Tryz.ntmps57
  go_wp2
  go_ret
  exact ⟨rfl, rfl⟩
theorem gValueOfPP (t : Addr) (w : World) : (entry Tryz.f95 #[.iface 114 (.pointer (some t))]).run Tryz.prog w
    = .ok (.agg #[.pointer (some ⟨4, 114, none⟩), .pointer (some ⟨w.heap.size, 0, none⟩), .int .u64 150]) (w.alloc (.cells #[.pointer (some t)] 114)) := by kernel_rfl
theorem gValueOfP (e : Addr) (w : World) : (entry Tryz.f95 #[.iface 112 (.pointer (some e))]).run Tryz.prog w
    = .ok (.agg #[.pointer (some ⟨4, 112, none⟩), .pointer (some ⟨w.heap.size, 0, none⟩), .int .u64 150]) (w.alloc (.cells #[.pointer (some e)] 112)) := by kernel_rfl
theorem gType (a : Addr) (w : World) : (entry Tryz.f96 #[.agg #[.pointer (some ⟨4, 114, none⟩), .pointer (some a), .int .u64 150]]).run Tryz.prog w
    = .ok (.iface 221 (.agg #[.pointer (some ⟨4, 114, none⟩)])) w := by kernel_rfl
theorem gMethodKind (h : Value) (w : World) : (Go.method 481 221 (.agg #[h]) "Kind").run Tryz.prog w = .ok (316, h) w := by kernel_rfl
theorem gKindPP (w : World) : (entry Tryz.f316 #[.pointer (some ⟨4, 114, none⟩)]).run Tryz.prog w = .ok (.int .u8 22) w := by kernel_rfl
theorem gKindP (w : World) : (entry Tryz.f316 #[.pointer (some ⟨4, 112, none⟩)]).run Tryz.prog w = .ok (.int .u8 22) w := by kernel_rfl
theorem gMethodElem (h : Value) (w : World) : (Go.method 481 221 (.agg #[h]) "Elem").run Tryz.prog w = .ok (334, .agg #[h]) w := by kernel_rfl
theorem gMethodImplements (h : Value) (w : World) : (Go.method 481 221 (.agg #[h]) "Implements").run Tryz.prog w = .ok (335, .agg #[h]) w := by kernel_rfl
theorem gMethodAssignableTo (h : Value) (w : World) : (Go.method 481 221 (.agg #[h]) "AssignableTo").run Tryz.prog w = .ok (332, .agg #[h]) w := by kernel_rfl
theorem gElem (w : World) : (entry Tryz.f334 #[.agg #[.pointer (some ⟨4, 114, none⟩)]]).run Tryz.prog w = .ok (.iface 221 (.agg #[.pointer (some ⟨4, 112, none⟩)])) w := by kernel_rfl
theorem gImplements (w : World) : (entry Tryz.f335 #[.agg #[.pointer (some ⟨4, 112, none⟩)], .iface 221 (.agg #[.pointer (some ⟨4, 67, none⟩)])]).run Tryz.prog w = .ok (.bool true) w := by kernel_rfl
theorem gTypeOf (v : Value) (w : World) : (entry Tryz.f99 #[.iface 112 v]).run Tryz.prog w = .ok (.iface 221 (.agg #[.pointer (some ⟨4, 112, none⟩)])) w := by kernel_rfl
theorem gAssignable (w : World) : (entry Tryz.f332 #[.agg #[.pointer (some ⟨4, 112, none⟩)], .iface 221 (.agg #[.pointer (some ⟨4, 112, none⟩)])]).run Tryz.prog w = .ok (.bool true) w := by kernel_rfl
theorem gPartsPP (a : Addr) (w : World) : (ReflectliteValue.parts (.agg #[.pointer (some ⟨4, 114, none⟩), .pointer (some a), .int .u64 150])).run Tryz.prog w = .ok (some (114, a, 150)) w := by kernel_rfl
theorem gElemOf (w : World) : (Rtype.elem? 114).run Tryz.prog w = .ok (some 112) w := by kernel_rfl
theorem gMk (p : Addr) (w : World) : (ReflectliteValue.mk 112 p ReflectliteValue.flagAddr).run Tryz.prog w = .ok (.agg #[.pointer (some ⟨4, 112, none⟩), .pointer (some p), .int .u64 406]) w := by kernel_rfl
theorem eIsNil : entry Tryz.f97 = ReflectliteValue.method (ReflectliteValue.valueError "reflectlite.Value.IsNil" 0) ReflectliteValue.isNil := by kernel_rfl
theorem eElemV : entry Tryz.f145 = ReflectliteValue.method (ReflectliteValue.valueError "reflectlite.Value.Elem" 0) ReflectliteValue.elem := by kernel_rfl
theorem gIsNil (a p : Addr) (W : World) (ha : W.cell? a = some (.pointer (some p))) :
    (entry Tryz.f97 #[.agg #[.pointer (some ⟨4, 114, none⟩), .pointer (some a), .int .u64 150]]).run Tryz.prog W = .ok (.bool false) W := by
  rw [eIsNil]
  rw [Go.Lib.rl_method]
  simp only [Sem.run_bind, gPartsPP, Result.andThen]
  simp [ReflectliteValue.isNil, loadVar, isAgg, underlying, Tryz.underlying114, ha, Result.andThen]
theorem gElemV (a p : Addr) (W : World) (ha : W.cell? a = some (.pointer (some p))) :
    (entry Tryz.f145 #[.agg #[.pointer (some ⟨4, 114, none⟩), .pointer (some a), .int .u64 150]]).run Tryz.prog W
      = .ok (.agg #[.pointer (some ⟨4, 112, none⟩), .pointer (some p), .int .u64 406]) W := by
  rw [eElemV]
  rw [Go.Lib.rl_method]
  simp only [Sem.run_bind, gPartsPP, Result.andThen]
  simp [ReflectliteValue.elem, loadVar, isAgg, underlying, Tryz.underlying114, ha, Result.andThen, gElemOf, gMk]
theorem gSetRun (ta b : Addr) (W : World) :
    (entry Tryz.f146 #[.agg #[.pointer (some ⟨4, 112, none⟩), .pointer (some ta), .int .u64 406], .agg #[.pointer (some ⟨4, 112, none⟩), .pointer (some b), .int .u64 150]]).run Tryz.prog W
      = (do let v ← loadVar 112 b; storeVar 112 ta v; pure (.tuple #[]) : Sem Value).run Tryz.prog W := by kernel_rfl
theorem gSet (ta b e : Addr) (old : Value) (W : World) (hb : W.cell? b = some (.pointer (some e))) (ht : W.cell? ta = some old) (hf : W.frozen? ta = false) :
    (entry Tryz.f146 #[.agg #[.pointer (some ⟨4, 112, none⟩), .pointer (some ta), .int .u64 406], .agg #[.pointer (some ⟨4, 112, none⟩), .pointer (some b), .int .u64 150]]).run Tryz.prog W
      = .ok (.tuple #[]) (W.setCell ta (.pointer (some e))) := by
  rw [gSetRun]
  simp [loadVar, isAgg, underlying, Tryz.underlying112, hb, Result.andThen, storeVar, Value.cells, storeCells, Addr.add]
  rw [run_store Tryz.prog W ta _ _ (by rfl)]
  simp [ht, hf]
end Go.Proofs.YtgnfknjopafngaaGreatDoor
namespace Go.Proofs.YtgnfknjopafngaaGreatDoor
open Go.RowKit Go.Extern.Stop Go.Stop Go.Extern
def ErrLaid (w : World) : Prop := w.cell? ⟨0, 0, none⟩ = some (.iface 221 (.agg #[.pointer (some ⟨4, 67, none⟩)]))
theorem ErrLaid.pos {w : World} (hg : ErrLaid w) : 0 < w.heap.size := by
  unfold ErrLaid at hg
  rcases Nat.eq_zero_or_pos w.heap.size with h0 | h
  · simp [World.cell?, h0] at hg
  · exact h
theorem ErrLaid.below {w w' : World} (hg : ErrLaid w) (hb : Below w.heap.size w w') : ErrLaid w' := (hb.cell (p := ⟨0, 0, none⟩) hg.pos).trans hg
set_option maxRecDepth 100000 in
set_option maxHeartbeats 4000000 in
theorem as_hit (e t : Addr) (old : Value) (w : World) (hg0 : ErrLaid w) (ht0 : w.cell? t = some old) (hf0 : w.frozen? t = false) :
    Calls Tryz.prog 57 #[.iface 112 (.pointer (some e)), .iface 114 (.pointer (some t))] w fun ev w' => ev = .returned (.bool true) ∧ ∃ W, Below w.heap.size w W ∧ w' = W.setCell t (.pointer (some e)) := by
  have hlt := hg0.pos
  have hg : w.cell? ⟨0, 0, none⟩ = some (.iface 221 (.agg #[.pointer (some ⟨4, 67, none⟩)])) := hg0
  have h6 := @callE Tryz.prog 95 _ Tryz.func95 (by kernel_rfl) (by kernel_rfl) (by kernel_rfl) (by kernel_rfl)
  have h7 := @callE Tryz.prog 96 _ Tryz.func96 (by kernel_rfl) (by kernel_rfl) (by kernel_rfl) (by kernel_rfl)
  have h8 := @callE Tryz.prog 97 _ Tryz.func97 (by kernel_rfl) (by kernel_rfl) (by kernel_rfl) (by kernel_rfl)
  have h27 := @callE Tryz.prog 316 _ Tryz.func316 (by kernel_rfl) (by kernel_rfl) (by kernel_rfl) (by kernel_rfl)
  have h37 := @callE Tryz.prog 334 _ Tryz.func334 (by kernel_rfl) (by kernel_rfl) (by kernel_rfl) (by kernel_rfl)
  have h38 := @callE Tryz.prog 335 _ Tryz.func335 (by kernel_rfl) (by kernel_rfl) (by kernel_rfl) (by kernel_rfl)
  have h10 := @callE Tryz.prog 99 _ Tryz.func99 (by kernel_rfl) (by kernel_rfl) (by kernel_rfl) (by kernel_rfl)
  have h35 := @callE Tryz.prog 332 _ Tryz.func332 (by kernel_rfl) (by kernel_rfl) (by kernel_rfl) (by kernel_rfl)
  have h11 := @callE Tryz.prog 145 _ Tryz.func145 (by kernel_rfl) (by kernel_rfl) (by kernel_rfl) (by kernel_rfl)
  have h12 := @callE Tryz.prog 146 _ Tryz.func146 (by kernel_rfl) (by kernel_rfl) (by kernel_rfl) (by kernel_rfl)
  have tO := gTypeOf
  have mA := gMethodAssignableTo
  have a25 := gAssignable
  have v25 := gValueOfP
  have f6 := gValueOfPP
  have f7 := gType
  have mK := gMethodKind
  have mE := gMethodElem
  have mI := gMethodImplements
  have k27 := gKindPP
  have k25 := gKindP
  have e27 := gElem
  have i25 := gImplements
  have n8 := gIsNil ⟨w.heap.size, 0, none⟩ t ((w.alloc (.cells #[.pointer (some t)] 114)).alloc (.cells #[.pointer (some ⟨4, 114, none⟩), .pointer (some ⟨w.heap.size, 0, none⟩), .int .u64 150] 165)) (by simp)
  have hg2 : ((w.alloc (.cells #[.pointer (some t)] 114)).alloc (.cells #[.pointer (some ⟨4, 114, none⟩), .pointer (some ⟨w.heap.size, 0, none⟩), .int .u64 150] 165)).cell? ⟨0, 0, none⟩ = some (.iface 221 (.agg #[.pointer (some ⟨4, 67, none⟩)])) := by
    rw [World.cell?_alloc_lt _ _ ⟨0, 0, none⟩ (by simp), World.cell?_alloc_lt _ _ ⟨0, 0, none⟩ hlt]; exact hg
  have htl : t.block < w.heap.size := by
    rcases Nat.lt_or_ge t.block w.heap.size with h | h
    · exact h
    · simp [World.cell?, Array.getElem?_eq_none h] at ht0
  have el := gElemV ⟨w.heap.size, 0, none⟩ t (((w.alloc (.cells #[.pointer (some t)] 114)).alloc (.cells #[.pointer (some ⟨4, 114, none⟩), .pointer (some ⟨w.heap.size, 0, none⟩), .int .u64 150] 165)).alloc (.cells #[.pointer (some ⟨4, 114, none⟩), .pointer (some ⟨w.heap.size, 0, none⟩), .int .u64 150] 165)) (by rw [World.cell?_alloc_lt _ _ ⟨w.heap.size, 0, none⟩ (by simp; omega)]; simp)
  have st := gSet t ⟨w.heap.size + 1 + 1 + 1, 0, none⟩ e old ((((w.alloc (.cells #[.pointer (some t)] 114)).alloc (.cells #[.pointer (some ⟨4, 114, none⟩), .pointer (some ⟨w.heap.size, 0, none⟩), .int .u64 150] 165)).alloc (.cells #[.pointer (some ⟨4, 114, none⟩), .pointer (some ⟨w.heap.size, 0, none⟩), .int .u64 150] 165)).alloc (.cells #[.pointer (some e)] 112))
    (by rw [World.cell?_alloc_at _ _ _ _ (by simp)]; rfl)
    (by rw [World.cell?_alloc_lt _ _ t (by simp; omega), World.cell?_alloc_lt _ _ t (by simp; omega), World.cell?_alloc_lt _ _ t (by simp; omega), World.cell?_alloc_lt _ _ t htl]; exact ht0)
    (by rw [World.frozen?_alloc_old _ _ t (by simp; omega), World.frozen?_alloc_old _ _ t (by simp; omega), World.frozen?_alloc_old _ _ t (by simp; omega), World.frozen?_alloc_old _ _ t (Nat.ne_of_lt htl)]; exact hf0)
  go_enter Tryz.func57, Tryz.ntmps57
  go_wp2
  refine wp_loop_rounds 1 ?_
  rw [rounds_succ]
  go_wp2
  go_ret
  refine ⟨rfl, _, ?_, rfl⟩
  exact ((((Below.refl _ w).alloc (Nat.le_refl _) _).alloc (by simp) _).alloc (by simp; omega) _).alloc (by simp; omega) _
end Go.Proofs.YtgnfknjopafngaaGreatDoor
namespace Go.Proofs.YtgnfknjopafngaaGreatDoor
namespace M
def nameP (c : Int) : Bool := decide ((97 ≤ c ∧ c ≤ 122) ∨ (48 ≤ c ∧ c ≤ 57) ∨ c = 45)
def verP (c : Int) : Bool := decide ((97 ≤ c ∧ c ≤ 122) ∨ (65 ≤ c ∧ c ≤ 90) ∨ (48 ≤ c ∧ c ≤ 57) ∨ c = 46 ∨ c = 43 ∨ c = 45 ∨ c = 126)
def partP (c : Int) : Bool := decide ((97 ≤ c ∧ c ≤ 122) ∨ (48 ≤ c ∧ c ≤ 57) ∨ c = 46 ∨ c = 95)
def made (p : Int → Bool) (least most : Nat) (s : List UInt8) : Bool := s.all (fun b => p b.toNat) && (decide (least ≤ s.length) && decide (s.length ≤ most))
def headP (p : Int → Bool) (s : List UInt8) : Bool := match s with
  | [] => false
  | b :: _ => p b.toNat
def isNameS (s : List UInt8) : Bool := made nameP 1 12 s && headP isSm s
def isVerS (s : List UInt8) : Bool := made verP 1 16 s && headP isD s
def cutA (sep : List UInt8) : Nat → List UInt8 → List UInt8 → List (List UInt8)
  | 0, cur, rest => [cur ++ rest]
  | n + 1, cur, rest =>
    if rest.length < sep.length then [cur ++ rest]
    else if rest.take sep.length = sep then cur :: cutA sep n [] (rest.drop sep.length)
    else cutA sep n (cur ++ rest.take 1) (rest.drop 1)
def cutS (s sep : List UInt8) : List (List UInt8) := cutA sep s.length [] s
theorem cutA_any {sep : List UInt8} (hs : 0 < sep.length) : ∀ (n m : Nat) (cur rest : List UInt8), rest.length ≤ n → rest.length ≤ m → cutA sep n cur rest = cutA sep m cur rest
  | 0, 0, _, _, _, _ => rfl
  | 0, m + 1, cur, rest, hn, _ => by
    have : rest = [] := List.length_eq_zero_iff.mp (by omega)
    subst this
    simp only [cutA, List.length_nil]
    rw [if_pos hs]
  | n + 1, 0, cur, rest, _, hm => by
    have : rest = [] := List.length_eq_zero_iff.mp (by omega)
    subst this
    simp only [cutA, List.length_nil]
    rw [if_pos hs]
  | n + 1, m + 1, cur, rest, hn, hm => by
    simp only [cutA]
    by_cases h1 : rest.length < sep.length
    · rw [if_pos h1, if_pos h1]
    · rw [if_neg h1, if_neg h1]
      rw [cutA_any hs n m [] (rest.drop sep.length) (by simp; omega) (by simp; omega), cutA_any hs n m (cur ++ rest.take 1) (rest.drop 1) (by simp; omega) (by simp; omega)]
theorem cutA_stop {sep : List UInt8} (n : Nat) (cur rest : List UInt8) (h : rest.length < sep.length) : cutA sep n cur rest = [cur ++ rest] := by
  cases n with
  | zero => rfl
  | succ n => simp only [cutA]; rw [if_pos h]
theorem cutA_hit {sep : List UInt8} (hs : 0 < sep.length) (n m : Nat) (cur rest : List UInt8) (hn : rest.length ≤ n) (hm : (rest.drop sep.length).length ≤ m) (h : ¬ rest.length < sep.length) (h2 : rest.take sep.length = sep) :
    cutA sep n cur rest = cur :: cutA sep m [] (rest.drop sep.length) := by
  cases n with
  | zero => omega
  | succ n =>
    simp only [cutA]
    rw [if_neg h, if_pos h2, cutA_any hs n m _ _ (by simp; omega) hm]
theorem cutA_miss {sep : List UInt8} (hs : 0 < sep.length) (n m : Nat) (cur rest : List UInt8) (hn : rest.length ≤ n) (hm : (rest.drop 1).length ≤ m) (h : ¬ rest.length < sep.length) (h2 : ¬ rest.take sep.length = sep) :
    cutA sep n cur rest = cutA sep m (cur ++ rest.take 1) (rest.drop 1) := by
  cases n with
  | zero => omega
  | succ n =>
    simp only [cutA]
    rw [if_neg h, if_neg h2, cutA_any hs n m _ _ (by simp; omega) hm]
theorem cutA_len {sep : List UInt8} : ∀ (n : Nat) (cur rest : List UInt8), 0 < (cutA sep n cur rest).length ∧ (cutA sep n cur rest).length ≤ n + 1
  | 0, _, _ => by simp [cutA]
  | n + 1, cur, rest => by
    simp only [cutA]
    split
    · simp
    · split
      · have := cutA_len (sep := sep) n [] (rest.drop sep.length); simp; omega
      · have := cutA_len (sep := sep) n (cur ++ rest.take 1) (rest.drop 1); omega
theorem cutS_len (s sep : List UInt8) : 0 < (cutS s sep).length ∧ (cutS s sep).length ≤ s.length + 1 := cutA_len _ _ _
theorem cutA_mem {sep : List UInt8} : ∀ (n : Nat) (cur rest : List UInt8), ∀ x ∈ cutA sep n cur rest, x.length ≤ cur.length + rest.length
  | 0, cur, rest, x, hx => by simp [cutA] at hx; subst hx; simp
  | n + 1, cur, rest, x, hx => by
    simp only [cutA] at hx
    split at hx
    · simp at hx; subst hx; simp
    · split at hx
      · rcases List.mem_cons.mp hx with rfl | hx
        · omega
        · have := cutA_mem (sep := sep) n [] (rest.drop sep.length) x hx; simp at this; omega
      · have := cutA_mem (sep := sep) n (cur ++ rest.take 1) (rest.drop 1) x hx
        simp only [List.length_append, List.length_take, List.length_drop] at this; omega
theorem cutS_mem (s sep : List UInt8) (x : List UInt8) (h : x ∈ cutS s sep) : x.length ≤ s.length := by
  have := cutA_mem (sep := sep) s.length [] s x h; simpa using this
def begins (s t : List UInt8) : Bool := decide (t.length ≤ s.length) && (s.take t.length == t)
def over (a b : List UInt8) : Bool := begins b (a ++ [47])
structure Ch where
  name : List UInt8
  sign : List UInt8
  ver : List UInt8
structure Fl where
  path : List UInt8
  content : List UInt8
structure Pk where
  name : List UInt8
  ver : List UInt8
  needs : List (List Ch)
  bars : List Ch
  files : List Fl
def isSignP (p : List UInt8) : Bool := p == [40, 60, 60] || p == [40, 60, 61] || p == [40, 61] || p == [40, 62, 61] || p == [40, 62, 62]
def choiceS (s : List UInt8) : Option Ch := match cutS s [32] with
  | [p0] => if isNameS p0 = true then some ⟨s, [], []⟩ else none
  | [p0, p1, p2] =>
    if isNameS p0 = true ∧ 0 < p2.length ∧ isVerS (p2.take (p2.length - 1)) = true ∧ isSignP p1 = true ∧ (p2.drop (p2.length - 1) == [41]) = true then some ⟨p0, p1.drop 1, p2.take (p2.length - 1)⟩ else none
  | _ => none
def allS {α : Type} (f : List UInt8 → Option α) : List (List UInt8) → Option (List α)
  | [] => some []
  | s :: l => match f s with
    | none => none
    | some c => match allS f l with
      | none => none
      | some r => some (c :: r)
def choicesS (s sep : List UInt8) (most : Nat) : Option (List Ch) := match allS choiceS (cutS s sep) with
  | none => none
  | some l => if l.length ≤ most then some l else none
def isPathS (s : List UInt8) : Bool := (cutS s [47]).all (fun q => made partP 1 8 q && !(q == [46]) && !(q == [46, 46])) && decide ((cutS s [47]).length ≤ 3)
def fileS (s : List UInt8) : Option Fl :=
  if lead (fun c => decide (c ≠ 61)) s = s.length then none
  else if isPathS (s.take (lead (fun c => decide (c ≠ 61)) s)) = true ∧ s.length - lead (fun c => decide (c ≠ 61)) s - 1 ≤ 24 then
    some ⟨s.take (lead (fun c => decide (c ≠ 61)) s), s.drop (lead (fun c => decide (c ≠ 61)) s + 1)⟩
  else none
def needsW : List UInt8 := [110, 101, 101, 100, 115, 32]
def barsW : List UInt8 := [98, 97, 114, 115, 32]
def fileW : List UInt8 := [102, 105, 108, 101, 32]
def titleS (s : List UInt8) : Option (List UInt8 × List UInt8) := match cutS s [32] with
  | [a, b, c] => if (a == [112, 97, 99, 107, 97, 103, 101]) = true ∧ isNameS b = true ∧ isVerS c = true then some (b, c) else none
  | _ => none
def apart (f g : Fl) : Bool := !over f.path g.path && !over g.path f.path && !(f.path == g.path)
def groupS (s : List UInt8) : Option (List Ch) := choicesS s [32, 124, 32] 3
def lineS (p : Pk) (k : Nat) (s : List UInt8) : Option Pk :=
  if k = 0 then (match titleS s with
    | none => none
    | some (a, b) => some { p with name := a, ver := b })
  else if begins s needsW = true ∧ p.needs.length + p.bars.length + p.files.length = 0 then (match allS groupS (cutS (s.drop 6) [44, 32]) with
    | none => none
    | some l => if l.length ≤ 3 then some { p with needs := l } else none)
  else if begins s barsW = true ∧ p.bars.length + p.files.length = 0 then (match choicesS (s.drop 5) [44, 32] 3 with
    | none => none
    | some l => some { p with bars := l })
  else if begins s fileW = true ∧ p.files.length < 4 then (match fileS (s.drop 5) with
    | none => none
    | some f => if p.files.all (apart f) = true then some { p with files := p.files ++ [f] } else none)
  else none
end M
end Go.Proofs.YtgnfknjopafngaaGreatDoor
namespace Go.Proofs.YtgnfknjopafngaaGreatDoor
open Go.RowKit
theorem infoStr : (Tryz.prog.info? 9).map (fun i => (i.zero, i.size, i.bytes)) = some (some (.string ⟨#[]⟩), 1, 16) := by kernel_rfl
def strV (l : List UInt8) : Value := .string ⟨l.toArray⟩
def cutB (s sep : ByteArray) : List (List UInt8) := M.cutS s.data.toList sep.data.toList
end Go.Proofs.YtgnfknjopafngaaGreatDoor
namespace Go.Proofs.YtgnfknjopafngaaGreatDoor
open Go.RowKit
theorem bytes_list (l : List (List UInt8)) : ∃ ps : List ByteArray, l = ps.map (fun p => p.data.toList) :=
  ⟨l.map (fun x => ⟨x.toArray⟩), by
    induction l with
    | nil => rfl
    | cons a l ih => simp only [List.map_cons]; rw [← ih]⟩
theorem piece_size {s sep : ByteArray} {ps : List ByteArray} (hps : cutB s sep = ps.map (fun p => p.data.toList)) (p : ByteArray) (hp : p ∈ ps) : p.size ≤ s.size := by
  have := M.cutS_mem s.data.toList sep.data.toList p.data.toList (by show _ ∈ cutB s sep; rw [hps]; exact List.mem_map.mpr ⟨p, hp, rfl⟩)
  simpa using this
theorem strV_of (s : ByteArray) : Value.string s = strV s.data.toList := rfl
end Go.Proofs.YtgnfknjopafngaaGreatDoor
namespace Go.Proofs.YtgnfknjopafngaaGreatDoor
open Go.RowKit
def chCells (c : M.Ch) : List Value := [strV c.name, strV c.sign, strV c.ver]
def chsCells (l : List M.Ch) : List Value := l.flatMap chCells
theorem chsCells_len (l : List M.Ch) : (chsCells l).length = l.length * 3 := by
  induction l with
  | nil => rfl
  | cons c l ih => simp only [chsCells, List.flatMap_cons, List.length_append] at ih ⊢; rw [ih]; simp [chCells]; omega
theorem chsCells_snoc (l : List M.Ch) (c : M.Ch) : chsCells (l ++ [c]) = chsCells l ++ [strV c.name, strV c.sign, strV c.ver] := by
  simp [chsCells, chCells]
theorem allS_snoc {α : Type} (f : List UInt8 → Option α) : ∀ (l : List (List UInt8)) (r : List α) (s : List UInt8), M.allS f l = some r → M.allS f (l ++ [s]) = (f s).map (fun c => r ++ [c])
  | [], r, s, h => by
    simp only [M.allS, Option.some.injEq] at h
    subst h
    simp only [List.nil_append, M.allS]
    cases f s <;> rfl
  | x :: l, r, s, h => by
    simp only [M.allS] at h
    simp only [List.cons_append, M.allS]
    cases hx : f x with
    | none => rw [hx] at h; cases h
    | some c =>
      rw [hx] at h
      cases hl : M.allS f l with
      | none => rw [hl] at h; cases h
      | some t =>
        rw [hl] at h
        cases h
        rw [allS_snoc f l t s hl]
        cases f s <;> rfl
theorem allS_stop {α : Type} (f : List UInt8 → Option α) : ∀ (l m : List (List UInt8)), M.allS f l = none → M.allS f (l ++ m) = none
  | [], m, h => by simp [M.allS] at h
  | x :: l, m, h => by
    simp only [M.allS] at h
    simp only [List.cons_append, M.allS]
    cases hx : f x with
    | none => rfl
    | some c =>
      rw [hx] at h
      cases hl : M.allS f l with
      | none => rw [allS_stop f l m hl]
      | some t => rw [hl] at h; cases h
theorem own_below {w w' : World} {B e size n : Nat} {v : Value} {xs : List Value} (h : w.ownsRow B e size v n xs) (hb : Below w.heap.size w w') : w'.ownsRow B e size v n xs :=
  h.kept (row := none) ⟨hb.os, hb.tape, hb.output, hb.size, fun k hk _ => hb.block k hk⟩ (by cases hv : v.ownBlock with | none => exact .inl rfl | some k => exact .inr (by simp))
theorem own_form {w : World} {B e size n : Nat} {v : Value} {xs : List Value} (h : w.ownsRow B e size v n xs) : ∃ a cap, v = .slice a n cap := by
  obtain ⟨_, ⟨rfl, rfl⟩ | ⟨g, cap, cur, rfl, _⟩⟩ := h
  · exact ⟨_, _, rfl⟩
  · exact ⟨_, _, rfl⟩
theorem own_base {w : World} {B B' e size n : Nat} {v : Value} {xs : List Value} (h : w.ownsRow B e size v n xs) (hB : B' ≤ B) : w.ownsRow B' e size v n xs := by
  obtain ⟨hl, h | ⟨g, cap, cur, h1, h2, h3⟩⟩ := h
  · exact ⟨hl, .inl h⟩
  · exact ⟨hl, .inr ⟨g, cap, cur, h1, by omega, h3⟩⟩
theorem new_cells (w : World) (xs : List Value) (t : TypeId) : ∀ j u, xs[j]? = some u → (w.alloc (.cells xs.toArray t)).cell? ((⟨w.heap.size, 0, none⟩ : Addr).add j) = some u := by
  intro j u hj
  have e : (w.alloc (.cells xs.toArray t)).heap[w.heap.size]? = some (.cells xs.toArray t) := (MapKept.heap_alloc w _).1
  have e2 : ((⟨w.heap.size, 0, none⟩ : Addr).add j) = ⟨w.heap.size, j, none⟩ := by unfold Addr.add; by_cases h : j = 0 <;> simp [h]
  rw [e2]
  simp only [World.cell?, e]
  simpa using hj
end Go.Proofs.YtgnfknjopafngaaGreatDoor
