import Derived.RangeFuncBox
import Derived.Shelf.Abstract
import Derived.Shelf.RegionOpen
import Derived.WalkKit
import Derived.OwnWalkIn
import Derived.TacticsInMore
import Derived.LoopNIn
import Derived.LoopIn
import Derived.Test.YtgnfknjopafngaaGreatDoorKsf
import Derived.Test.YtgnfknjopafngaaGreatDoorKsu
import Derived.Test.YtgnfknjopafngaaGreatDoorKsw
import Derived.Test.YtgnfknjopafngaaGreatDoorKst
import Derived.Deep.RegionWith
import Derived.Test.YtgnfknjopafngaaGreatDoorKsd
import Derived.Deep.DeepCutAuto
import Derived.Test.YtgnfknjopafngaaGreatDoorKsr
import Derived.Test.YtgnfknjopafngaaGreatDoorKsl
import Derived.Test.YtgnfknjopafngaaGreatDoorKsb
namespace Go.Proofs.YtgnfknjopafngaaGreatDoor
open Go.RowKit Go.Maps Go.Shelf
attribute [local go_sem] Oper.semAt_some
def nmAt (l : List M.Pk) (k : Nat) : ByteArray := ⟨((M.sortN (l.map M.Pk.name))[k]?.getD []).toArray⟩
def txAt (l : List M.Pk) (k : Nat) : ByteArray := ⟨((M.textsS l)[k]?.getD []).toArray⟩
theorem names_len (l : List M.Pk) : (M.sortN (l.map M.Pk.name)).length = l.length := by rw [(M.sortN_perm _).length_eq, List.length_map]
theorem at_names {l : List M.Pk} (ha : M.Apart l) {k : Nat} (hk : k < l.length) : ∃ p ∈ l, (M.sortN (l.map M.Pk.name))[k]? = some p.name ∧ nmAt l k = ⟨p.name.toArray⟩ ∧ txAt l k = ⟨(M.printS p).toArray⟩ := by
  have hr : k < (M.sortN (l.map M.Pk.name)).length := by rw [names_len]; exact hk
  obtain ⟨p, hp, e⟩ := names_get hr
  have e1 : (M.sortN (l.map M.Pk.name))[k]? = some p.name := by rw [List.getElem?_eq_getElem hr, e]
  refine ⟨p, hp, e1, ?_, ?_⟩
  · unfold nmAt; rw [e1]; rfl
  · unfold txAt M.textsS; rw [List.getElem?_map, e1, Option.map_some, M.textOf_mem ha hp]; rfl
theorem Below.chg {B : Nat} {F : Nat → Prop} {u w w' : World} (h : Below B u w) (hc : Chg F w w') (hF : ∀ j, F j → B ≤ j) (hB : B ≤ u.heap.size) : Below B u w' :=
  ⟨hc.os.trans h.os, hc.tape.trans h.tape, hc.output.trans h.output, Nat.le_trans h.size hc.size, fun k hk => (hc.block k (by have := h.size; omega) (fun f => by have := hF k f; omega)).trans (h.block k hk)⟩
set_option maxRecDepth 100000 in
set_option maxHeartbeats 4000000 in
theorem each_on (b n : Nat) (l : List M.Pk) (w0 : World) (hl : SetIn w0 b l) (hn : l.length ≤ 1000000) (hs : ∀ p ∈ l, ReadP p) (h1 : 1 ≤ n) :
    SeqOn Fence.wide n Tryz.prog 77 #[.map (some b)] #[] l.length (fun k => #[.string (nmAt l k), .string (txAt l k)]) w0 (fun _ => True) := by
  intro lp J W c _ hB0 hJa hJc hY hJ0
  have cN := callsIn_wide (n := n - 1).2 (names_any b l W (hl.below hB0) hn)
  have HL : Hid (SetIn w0 b l) := hl
  have HS : Hid (∀ p ∈ l, ReadP p) := hs
  have HA : Hid (M.Apart l) := hl.apart
  have HJa : Hid (∀ k c W1 W2, J k c W1 → Chg (fun j => W.heap.size ≤ j ∧ ¬ c j) W1 W2 → J k c W2) := hJa
  have HJc : Hid (∀ k c W1 j, J k c W1 → c j → w0.heap.size ≤ j ∧ j < W1.heap.size) := hJc
  have HY : Hid (∀ k c W1, k < l.length → J k c W1 → YieldAt Fence.wide (n - 1) Tryz.prog lp #[.string (nmAt l k), .string (txAt l k)] W1 fun e W' => e = .returned (.bool true) ∧ ∃ c', J (k + 1) c' W' ∧ Chg c W1 W' ∧ ∀ j, c' j → c j ∨ W1.heap.size ≤ j) := hY
  have HJ0 : Hid (J 0 c W) := hJ0
  generalize hr : nmCells (M.sortN (l.map M.Pk.name)) = r at cN
  have HR : Hid (nmCells (M.sortN (l.map M.Pk.name)) = r) := hr
  clear hl hs hJa hJc hY hJ0 hr
  simp only [List.append_toArray, List.nil_append, List.cons_append, List.append_nil]
  refine callsIn_of_wp Tryz.func77 rfl trivial ?_ rfl
  simp only [Tryz.ntmps77, List.size_toArray, List.length_cons, List.length_nil, Nat.reduceAdd, Nat.reduceSub, Array.replicate_succ, Array.replicate_zero, List.push_toArray, List.append_toArray, List.nil_append, List.cons_append]
  gi_wp2_with (refine ⟨trivial, ?_⟩; gi_at_call 120; refine cN.mono ?_; rintro e w1 ⟨v, rfl, hrow, hB1⟩; obtain ⟨a1, c1, e1⟩ := own_form hrow; subst e1; have HRow : Hid (w1.ownsRow W.heap.size 9 1 (.slice a1 l.length c1) l.length r) := hrow; clear hrow cN)
  gi_loopw [5, 9] (fun _ i wr => ∃ (k : Nat) (c : Nat → Prop), i = .int .i64 k ∧ k ≤ l.length ∧ Hid (J k c wr) ∧ Hid (wr.ownsRow W.heap.size 9 1 (.slice a1 l.length c1) l.length r) ∧ Hid (∀ g, (Value.slice a1 l.length c1).ownBlock = some g → ¬ c g) ∧ Below w0.heap.size w0 wr) (fun _ i _ => l.length - (intOf i).toNat)
  case atStart =>
    refine ⟨0, c, rfl, Nat.zero_le _, HJa.out 0 c W w1 HJ0.out (Chg.below hB1), HRow.out, fun g hg hc => ?_, bt hB0 hB1⟩
    have := (HJc.out 0 c W g HJ0.out hc).2
    have := (HRow.out.lt g hg).1
    omega
  case round =>
    obtain ⟨k, c, rfl, hk, HJ, HRw, HG, hBr⟩ := hrel
    by_cases hlt : k < l.length
    · obtain ⟨p, hp, hnm, eN, eT⟩ := at_names HA.out hlt
      obtain ⟨g, e1, hg, hcap, hc⟩ := ((RowIn.own HRw.out).wide (Nat.zero_le _) (Nat.le_refl _)).cellAt (by omega)
      subst e1
      have c0 : wr.cell? ⟨g, k, none⟩ = some (.string (nmAt l k)) := hc k _ (by rw [← HR.out]; unfold nmCells; rw [List.getElem?_map, hnm, eN]; rfl)
      have hYd : (nmAt l k).data.toList = p.name := by rw [eN]
      have hYs : (nmAt l k).size ≤ maxLen := by have := (HS.out p hp).short.name; rw [size_of hYd]; unfold maxLen; omega
      obtain ⟨f, hm, hv⟩ := HL.out.below hBr
      have hr1 : (Instr.lookup 135 (.map (some b)) (.string (nmAt l k)) false).run Tryz.prog wr = .ok (f p) wr := by
        rw [hm.look Tryz.underlying9 setMap (zeroPk_run wr) hYs, hYd, (look_mem hm.keys).2 (List.mem_map.2 ⟨p, hp, rfl⟩), Option.getD_some]
      have cO : CallsIn Fence.wide (n - 1) Tryz.prog 56 #[f p] wr (fun e w' => e = .returned (.string (txAt l k)) ∧ Below wr.heap.size wr w') := callsIn_wide.2 ((oneForm_any p (f p) wr (hv p hp) (HS.out p hp).short).mono (fun e w' ⟨T, e1, e2, e3⟩ => ⟨by rw [e1, eT, ← e2], e3⟩))
      generalize f p = fv at hr1 cO
      clear hm hv hYd hc hnm eN eT
      gi_wp2_with (refine ⟨trivial, ?_⟩; gi_at_call 56; refine cO.mono ?_; rintro e w3 ⟨rfl, hB3⟩; obtain ⟨fn, tmps, assign, body, hy, hR⟩ := HY.out k c w3 hlt (HJa.out k c wr w3 HJ.out (Chg.below hB3)))
      refine hR.mono ?_
      rintro e w4 ⟨rfl, c', hJ', hC, hc'⟩
      have hrow3 := Chg.own (F := fun _ => False) (Chg.below hB3) HRw.out (fun _ _ h => h)
      have HRw4 : Hid (w4.ownsRow W.heap.size 9 1 (.slice (some ⟨g, 0, none⟩) l.length c1) l.length r) := hC.own hrow3 HG.out
      have HG4 : Hid (∀ j, (Value.slice (some ⟨g, 0, none⟩) l.length c1).ownBlock = some j → ¬ c' j) := fun j hj h => by
        rcases hc' j h with h | h
        · exact HG.out j hj h
        · have := (hrow3.lt j hj).2
          omega
      have hB4 : Below w0.heap.size w0 w4 := Below.chg (bt hBr hB3) hC (fun j hj => (HJc.out k c wr j HJ.out hj).1) (Nat.le_refl _)
      have HJ4 : Hid (J (k + 1) c' w4) := hJ'
      clear hJ' hC hc' hrow3 hy hR
      gi_wp2
      go_roundw
      case rel => exact ⟨k + 1, c', by go_num, by omega, HJ4, HRw4, HG4, hB4⟩
      case measure => simp [intOf]; omega
    · have HE : Hid (k = l.length) := by show _ = _; omega
      gi_wp2
      go_end0
      exact ⟨⟨_, rfl⟩, c, by rw [← HE.out]; exact HJ.out⟩
end Go.Proofs.YtgnfknjopafngaaGreatDoor
namespace Go.Proofs.YtgnfknjopafngaaGreatDoor
open Go.RowKit Go.Maps
def addedS (there : List M.Pk) (texts : List (List UInt8)) : Sum M.Fa (List M.Pk) := match M.readAllS texts 0 [] with
  | .inl f => .inl f
  | .inr fresh => match M.addAllS fresh 0 there with
    | .inl f => .inl f
    | .inr _ => .inr fresh
def AddedPost (R : Sum M.Fa (List M.Pk)) (w : World) (e : Ending) (w' : World) : Prop :=
  Below w.heap.size w w' ∧ match R with
    | .inl f => ∃ ev, e = .returned (.tuple #[.map none, ev]) ∧ ErrIs f w' ev
    | .inr fresh => ∃ b, e = .returned (.tuple #[.map (some b), .nilIface]) ∧ SetIn w' b fresh
theorem added_read {there fresh : List M.Pk} {texts : List (List UInt8)} (h : addedS there texts = .inr fresh) : M.readAllS texts 0 [] = .inr fresh ∧ M.addAllS fresh 0 there = .inr (there ++ fresh) := by
  unfold addedS at h
  cases hr : M.readAllS texts 0 [] with
  | inl f => rw [hr] at h; cases h
  | inr l =>
    rw [hr] at h
    simp only at h
    cases ha : M.addAllS l 0 there with
    | inl f => rw [ha] at h; cases h
    | inr all =>
      rw [ha] at h
      cases h
      exact ⟨rfl, by rw [ha, M.addAll_is _ _ _ _ ha]⟩
theorem read_all {texts : List (List UInt8)} {fresh : List M.Pk} (h : M.readAllS texts 0 [] = .inr fresh) : fresh.length = texts.length ∧ ∀ p ∈ fresh, ReadP p := by
  refine ⟨by have := M.readAll_len _ _ _ _ h; simpa using this, fun p hp => ?_⟩
  rcases M.readAll_mem _ _ _ _ h p hp with h | ⟨t, _, h⟩
  · cases h
  · exact readP h
set_option maxRecDepth 100000 in
set_option maxHeartbeats 8000000 in
theorem addAll_any (b : Nat) (there : List M.Pk) (xv : Value) (texts : List ByteArray) (w : World) (hM : MaxIs w) (hE : ErrLaid w) (hl : SetIn w b there) (hx : TxtsIn w xv texts) (hxn : texts.length ≤ 10000) (hxs : ∀ t ∈ texts, t.size ≤ 8192) :
    Calls Tryz.prog 153 #[.map (some b), xv] w (AddedPost (addedS there (texts.map fun t => t.data.toList)) w) := by
  have cR := readAll_any xv texts w hM hE hx (by omega) hxs
  have hTl : (texts.map fun t => t.data.toList).length ≤ 10000 := by rw [List.length_map]; exact hxn
  generalize (texts.map fun t => t.data.toList) = T at cR hTl ⊢
  have HL : Hid (SetIn w b there) := hl
  clear hM hE hl hx hxs
  go_enter Tryz.func153, Tryz.ntmps153
  go_wp2_with fail
  refine cR.mono ?_
  rintro e w2 ⟨hB2, hm⟩
  clear cR
  cases hr : M.readAllS T 0 [] with
  | inl f =>
    rw [hr] at hm
    obtain ⟨ev, rfl, fb, rfl, hF⟩ := hm
    have HP : Hid (addedS there T = .inl f) := by show _ = _; unfold addedS; rw [hr]
    have HF : Hid (ErrIs f w2 (.iface 112 (.pointer (some ⟨fb, 0, none⟩)))) := ⟨fb, rfl, hF⟩
    clear hr hF
    go_wp2
    refine bodyPost_ret (v := .tuple #[.map none, .iface 112 (.pointer (some ⟨fb, 0, none⟩))]) (by simp [results, Tryz.results153, go_sem]) rfl ⟨hB2, ?_⟩
    rw [HP.out]
    exact ⟨_, rfl, HF.out⟩
  | inr fresh =>
    rw [hr] at hm
    obtain ⟨v, rfl, hv⟩ := hm
    obtain ⟨k1, k2⟩ := read_all hr
    have cA := add_any b there fresh v w2 (HL.out.below hB2) hv (by omega) (fun p hp => Nat.le_trans (k2 p hp).short.name (by omega))
    have HR : Hid (M.readAllS T 0 [] = .inr fresh) := hr
    obtain ⟨av, cv, ev⟩ := hv.form
    subst ev
    clear hr hv k1 k2
    go_wp2_with fail
    refine cA.mono ?_
    rintro e w3 ⟨hB3, hm⟩
    have hB : Below w.heap.size w w3 := bt hB2 hB3
    clear cA hB3
    cases ha : M.addAllS fresh 0 there with
    | inl f =>
      rw [ha] at hm
      obtain ⟨ev, rfl, fb, rfl, hF⟩ := hm
      have HP : Hid (addedS there T = .inl f) := by show _ = _; unfold addedS; rw [HR.out]; simp only [ha]
      have HF : Hid (ErrIs f w3 (.iface 112 (.pointer (some ⟨fb, 0, none⟩)))) := ⟨fb, rfl, hF⟩
      clear ha hF
      go_wp2
      refine bodyPost_ret (v := .tuple #[.map none, .iface 112 (.pointer (some ⟨fb, 0, none⟩))]) (by simp [results, Tryz.results153, go_sem]) rfl ⟨hB, ?_⟩
      rw [HP.out]
      exact ⟨_, rfl, HF.out⟩
    | inr all =>
      rw [ha] at hm
      obtain ⟨nb, rfl, hS⟩ := hm
      have HP : Hid (addedS there T = .inr fresh) := by show _ = _; unfold addedS; rw [HR.out]; simp only [ha]
      have HS : Hid (SetIn w3 nb fresh) := hS
      clear ha hS
      go_wp2
      refine bodyPost_ret (v := .tuple #[.map (some nb), .nilIface]) (by simp [results, Tryz.results153, go_sem]) rfl ⟨hB, ?_⟩
      rw [HP.out]
      exact ⟨_, rfl, HS.out⟩
end Go.Proofs.YtgnfknjopafngaaGreatDoor
namespace Go.Proofs.YtgnfknjopafngaaGreatDoor
open Go.RowKit
theorem DiskAt.below {w w' : World} {d : Nat} {hv sv lv : Value} {left : Int} {dead : Bool} {held seen : List (List UInt8)} (h : DiskAt w d hv sv lv left dead held seen) (hb : Below w.heap.size w w') : DiskAt w' d hv sv lv left dead held seen :=
  have hg := grown_of_below hb none
  ⟨(hb.block d (Array.getElem?_eq_some_iff.1 h.blk).1).trans h.blk, h.held.kept hg (fun j hj => by cases hj) (by cases hv.ownBlock <;> simp), h.seen.kept hg (fun j hj => by cases hj) (by cases sv.ownBlock <;> simp), h.apart⟩
theorem arrSize : (Tryz.prog.info? 242).map (·.size) = some 64 := by kernel_rfl
theorem nil_Read (a : Addr) (w : World) : (nilAhead 481 84 (.pointer (some a)) "Read").run Tryz.prog w = .ok (some false) w := by kernel_rfl
theorem meth_Read (a : Addr) (w : World) : (method 481 84 (.pointer (some a)) "Read").run Tryz.prog w = .ok (319, .pointer (some a)) w := by kernel_rfl
set_option maxRecDepth 100000 in
set_option maxHeartbeats 4000000 in
theorem sector_any (k d half n : Nat) (hv sv lv : Value) (left : Int) (dead : Bool) (held seen : List (List UInt8)) (w : World) (hk : KnownAt w k d half) (h : DiskAt w d hv sv lv left dead held seen) (hn : n < seen.length) :
    Calls Tryz.prog 150 #[.pointer (some ⟨k, 0, none⟩), .int .i64 n] w fun e w' => e = .returned (.agg (seen[n].map byteV).toArray) ∧ Below w.heap.size w w' := by
  have n1 := nil_Read
  have n2 := meth_Read
  have hX0 : seen[n].length = 64 := by obtain ⟨_, _, _, _, _, _, _, _, _, _, _, _, _, h9⟩ := h.seen.at hn; exact h9
  have q0 : w.cell? ⟨k, 0, none⟩ = some (.iface 84 (.pointer (some ⟨d, 0, none⟩))) := by rw [cell_of_row w _ 0 _ _ (0, 0) hk]; rfl
  have hkl : k < w.heap.size := (Array.getElem?_eq_some_iff.1 hk).1
  have HD : Hid (DiskAt w d hv sv lv left dead held seen) := h
  have cR := fun wx (hb : Below w.heap.size w wx) => dRead_any d n hv sv lv left dead held seen wx (HD.out.below hb) hn
  clear h hk
  go_enter Tryz.func150, Tryz.ntmps150
  go_wp2
  generalize hA1 : w.alloc (.cells _ 242) = A1
  generalize hA2 : A1.alloc (.cells _ 242) = A2
  have s1 : A1.heap.size = w.heap.size + 1 := by rw [← hA1]; simp
  have b1 : Below w.heap.size w A1 := by rw [← hA1]; exact (Below.refl _ w).alloc (Nat.le_refl _) _
  have b2 : Below w.heap.size w A2 := by rw [← hA2]; exact bt b1 ((Below.refl _ A1).alloc (Nat.le_refl _) _)
  obtain ⟨Z4, hZ4, n1'⟩ : ∃ Z : Array Value, Z.size = 64 ∧ A2.heap[w.heap.size]? = some (.cells Z 242 (0, 0)) := ⟨_, rfl, by rw [← hA2, heap_alloc_old (w := A1) (o := _) (h := by omega), ← hA1]; exact heap_alloc_new w _⟩
  obtain ⟨Z, hZ, n2'⟩ : ∃ Z : Array Value, Z.size = 64 ∧ A2.heap[w.heap.size + 1]? = some (.cells Z 242 (0, 0)) := ⟨_, rfl, by rw [← hA2, ← s1]; exact heap_alloc_new A1 _⟩
  have p0 := (b2.cell (p := ⟨k, 0, none⟩) hkl).trans q0
  have s2 : w.heap.size + 1 < A2.heap.size := (Array.getElem?_eq_some_iff.1 n2').1
  have hcp : ∀ w3 h, Below A2.heap.size A2 w3 → w3.heap[h]? = some (.cells (seen[n].map byteV).toArray 5 (0, 0)) → (Builtin.copy_ #[131, 131] 3 #[.slice (some ⟨w.heap.size + 1, 0, none⟩) 64 64, .slice (some ⟨h, 0, none⟩) 64 64]).run Tryz.prog w3 = .ok (.int .i64 64) (w3.setRow (w.heap.size + 1) (seen[n].map byteV).toArray) :=
    fun w3 h hb hh => copy64 3 ((hb.block _ s2).trans n2') hZ (fun j u hu => by rw [cell_of_row w3 h j _ _ (0, 0) hh]; simpa using hu) hX0
  clear hA1 hA2
  go_region_with (go_at_call 319; refine (cR _ (bt b2 (below_same A2 1))).mono ?_; rintro e w3 ⟨rfl, hw3, hB3⟩; have hc3 := hcp w3 A2.heap.size (bt (below_same A2 1) hB3) hw3)
  have hx := (hB3.block (w.heap.size + 1) s2).trans n2'
  have h4 := (hB3.block w.heap.size (by show _ < A2.heap.size; omega)).trans n1'
  have h5 := setRow_heap w3 _ _ (seen[n].map byteV).toArray _ _ hx
  have h4' := (setRow_other w3 (w.heap.size + 1) w.heap.size (seen[n].map byteV).toArray (by omega)).trans h4
  have hB4 : Below w.heap.size w (w3.setRow (w.heap.size + 1) (seen[n].map byteV).toArray) := (bt (bt b2 (below_same A2 1)) hB3).grown (setRow_grown w3 _ _) (bt (bt b2 (below_same A2 1)) hB3).size (fun j hj => by cases hj; omega)
  have hX64 := hX0
  clear hX0
  generalize w3.setRow (w.heap.size + 1) (seen[n].map byteV).toArray = W4 at h5 h4' hB4 ⊢
  generalize hSX : seen[n] = X at h5 hX64 ⊢
  have HSX : Hid (seen[n] = X) := hSX
  clear hSX
  have hXs : (X.map byteV).toArray.size = 64 := by simp [hX64]
  have hX1 : (X.map byteV).toArray.all (·.oneCell') = true := by
    rw [Array.all_eq_true_iff_forall_mem]
    intro v hv
    exact byte_one X v (by simpa using hv)
  have HE : Hid (w.heap.size ≤ W4.heap.size ∧ Below w.heap.size w W4) := ⟨hB4.size, hB4⟩
  have h6 := setRow_heap W4 _ _ (X.map byteV).toArray _ _ h4'
  clear hcp cR n1 n2 hc3 hw3 hx h4 hB4
  go_wp2_with (first
    | (refine wpList_load_row rfl 242 (.tmp 5) rfl (w.heap.size + 1) rfl _ _ _ _ h5 Tryz.underlying242 rfl (arrSize.trans (by rw [hXs])) ?_)
    | (refine wpList_store_row rfl 242 (.tmp 4) (.tmp 14) rfl w.heap.size _ rfl rfl _ _ h4' (arrSize.trans (by rw [hXs])) (by rw [hXs, hZ4]) hX1 ?_)
    | go_in)
  refine bodyPost_ret (v := .agg (X.map byteV).toArray) (results_cell_row Tryz.results150 _ _ w.heap.size _ _ _ _ rfl h6 Tryz.underlying242 rfl (arrSize.trans (by rw [hXs]))) rfl ⟨by rw [HSX.out], ?_⟩
  exact HE.out.2.grown (setRow_grown W4 _ _) HE.out.1 (fun j hj => by cases hj; exact Nat.le_refl _)
end Go.Proofs.YtgnfknjopafngaaGreatDoor
namespace Go.Proofs.YtgnfknjopafngaaGreatDoor
open Go.RowKit
set_option maxRecDepth 100000 in
theorem split_none (w : World) : Calls Tryz.prog 151 #[.string ⟨#[]⟩] w fun e w' => e = .returned (.slice none 0 0) ∧ w = w' := by
  go_enter Tryz.func151, Tryz.ntmps151
  go_wp2
  go_ret
  exact ⟨rfl, rfl⟩
end Go.Proofs.YtgnfknjopafngaaGreatDoor
namespace Go.Proofs.YtgnfknjopafngaaGreatDoor
open Go.RowKit Go.Maps
def StoreAt (w : World) (s k b : Nat) : Prop := w.heap[s]? = some (.cells #[.pointer (some ⟨k, 0, none⟩), .map (some b)] 140 (0, 0))
def SessAt (w : World) (x d : Nat) (sv : Value) : Prop := w.heap[x]? = some (.cells #[.pointer (some ⟨d, 0, none⟩), sv] 88 (0, 0))
theorem StrsIn.none (w : World) : StrsIn w (.slice .none 0 0) [] := .inl ⟨rfl, rfl, rfl⟩
theorem SetIn.kept0 {w w' : World} {b : Nat} {row : Option Nat} (h : SetIn w b []) (hg : w.grownBy w' row) (hne : some b ≠ row) : SetIn w' b [] := by
  obtain ⟨f, h1, _⟩ := h
  exact ⟨f, h1.kept hg hne, fun p hp => by cases hp⟩
abbrev okV : Value := .agg #[.int .i64 0, .int .i64 0, .int .i64 0, .string ⟨#[]⟩]
abbrev okC : Array Value := #[.int .i64 0, .int .i64 0, .int .i64 0, .string ⟨#[]⟩]
theorem okC_cell {w : World} {b : Nat} {t : TypeId} (h : w.heap[b]? = some (.cells okC t (0, 0))) : w.cell? ⟨b, 0, none⟩ = some (.int .i64 0) ∧ w.cell? ⟨b, 1, none⟩ = some (.int .i64 0) ∧ w.cell? ⟨b, 2, none⟩ = some (.int .i64 0) ∧ w.cell? ⟨b, 3, none⟩ = some (.string ⟨#[]⟩) ∧ ∀ o, w.frozen? ⟨b, o, none⟩ = false :=
  ⟨(cell_of_row w _ 0 _ _ (0, 0) h).trans rfl, (cell_of_row w _ 1 _ _ (0, 0) h).trans rfl, (cell_of_row w _ 2 _ _ (0, 0) h).trans rfl, (cell_of_row w _ 3 _ _ (0, 0) h).trans rfl, fun o => frozen_of_row w _ o _ _ h⟩
theorem DiskAt.kept {w w' : World} {d r : Nat} {hv sv lv : Value} {left : Int} {dead : Bool} {held seen : List (List UInt8)} (h : DiskAt w d hv sv lv left dead held seen) (hg : w.grownBy w' (some r)) (hlt : r < d) (hn : ∀ cur fz, w.heap[r]? ≠ some (.cells cur 5 fz)) : DiskAt w' d hv sv lv left dead held seen := by
  have hl : ∀ v l, Secs w (d + 1) v l → v.ownBlock = none ∨ v.ownBlock ≠ some r := fun v l h => by
    cases hq : v.ownBlock with
    | none => exact .inl rfl
    | some g => exact .inr (fun e => by have := h.lt g hq; cases e; omega)
  have hn' : ∀ j, some r = some j → ∀ cur fz, w.heap[j]? ≠ some (.cells cur 5 fz) := fun j hj => by cases hj; exact hn
  exact ⟨(hg.block d (Array.getElem?_eq_some_iff.1 h.blk).1 (fun e => by have := Option.some.inj e; omega)).trans h.blk, h.held.kept hg hn' (hl _ _ h.held), h.seen.kept hg hn' (hl _ _ h.seen), h.apart⟩
theorem grown4 (w : World) (r : Nat) (a b c d : Value) : w.grownBy ((((w.setCell ⟨r, 0, none⟩ a).setCell ⟨r, 1, none⟩ b).setCell ⟨r, 2, none⟩ c).setCell ⟨r, 3, none⟩ d) (some r) := by
  refine ⟨rfl, rfl, rfl, by simp, fun j _ hj => ?_⟩
  have h : j ≠ r := fun e => hj (by rw [e])
  rw [Below.heap_setCell _ _ _ _ h, Below.heap_setCell _ _ _ _ h, Below.heap_setCell _ _ _ _ h, Below.heap_setCell _ _ _ _ h]
end Go.Proofs.YtgnfknjopafngaaGreatDoor
namespace Go.Proofs.YtgnfknjopafngaaGreatDoor
open Go.RowKit
theorem wpList_append_eq {P : Program} {w : World} {ops : Array Oper} {rest : List Oper} {o : Oper} {a : Act} {Q : Exit → Act → World → Prop} (hgd : o.guard = none) (s x : Operand) (t : TypeId)
    (hop : o.op = Op.call { callee := Callee.builtin Builtin.append, args := #[s, x], argTypes := #[t, t] }) (v u v' : Value) (w' : World) (hs : a.eval s = v) (hx : a.eval x = u) (hrun : (Builtin.append_ #[t, t] o.type #[v, u]).run P w = .ok v' w')
    (hK : wpList P ops Q rest (a.put o.dst v') w') : wpList P ops Q (o :: rest) a w := by
  refine wpList_plain hgd fun K hK' => ?_
  unfold Oper.wp
  simp [execOp, hop, resolve, invoke, builtin, hs, hx, hrun, Result.andThen]
  exact hK' _ _ hK
end Go.Proofs.YtgnfknjopafngaaGreatDoor
