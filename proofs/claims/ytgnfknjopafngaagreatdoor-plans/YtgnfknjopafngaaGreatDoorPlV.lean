import Derived.Test.YtgnfknjopafngaaGreatDoorPlU
import Derived.Deep.RegionWith
import Derived.Test.YtgnfknjopafngaaGreatDoorPlM
import Derived.Test.YtgnfknjopafngaaGreatDoorFmI
import Derived.Test.YtgnfknjopafngaaGreatDoorPlK
import Derived.Deep.DeepCutAuto
/-
  THE CODE, WALKED: a sector as an array; the head.
-/
namespace Go.Proofs.YtgnfknjopafngaaGreatDoor
open Go.RowKit

theorem DiskAt.below {w w' : World} {d : Nat} {hv sv lv : Value} {left : Int} {dead : Bool} {held seen : List (List UInt8)} (h : DiskAt w d hv sv lv left dead held seen) (hb : Below w.heap.size w w') : DiskAt w' d hv sv lv left dead held seen :=
  have hg := grown_of_below hb none
  ⟨(hb.block d (Array.getElem?_eq_some_iff.1 h.blk).1).trans h.blk, h.held.kept hg (fun j hj => by cases hj) (by cases hv.ownBlock <;> simp), h.seen.kept hg (fun j hj => by cases hj) (by cases sv.ownBlock <;> simp), h.apart⟩
theorem arrSize : (Tryz.prog.info? 242).map (·.size) = some 64 := by kernel_rfl
theorem nil_Read (a : Addr) (w : World) : (nilAhead 481 84 (.pointer (some a)) "Read").run Tryz.prog w = .ok (some false) w := by kernel_rfl
theorem meth_Read (a : Addr) (w : World) : (method 481 84 (.pointer (some a)) "Read").run Tryz.prog w = .ok (319, .pointer (some a)) w := by kernel_rfl

set_option maxRecDepth 100000 in
set_option maxHeartbeats 4000000 in
theorem sector_any (k d half n : Nat) (hv sv lv : Value) (left : Int) (dead : Bool) (held seen : List (List UInt8)) (w : World) (hk : KnownAt w k d half) (h : DiskAt w d hv sv lv left dead held seen) (hn : n < seen.length) :
    Calls Tryz.prog 150 #[.pointer (some ⟨k, 0, none⟩), .int .i64 n] w fun e w' => e = .returned (.agg (seen[n].map byteV).toArray) ∧ Below w.heap.size w w' := by
  have n1 := nil_Read
  have n2 := meth_Read
  have hX0 : seen[n].length = 64 := by obtain ⟨_, _, _, _, _, _, _, _, _, _, _, _, _, h9⟩ := h.seen.at hn; exact h9
  have q0 : w.cell? ⟨k, 0, none⟩ = some (.iface 84 (.pointer (some ⟨d, 0, none⟩))) := by rw [cell_of_row w _ 0 _ _ (0, 0) hk]; rfl
  have hkl : k < w.heap.size := (Array.getElem?_eq_some_iff.1 hk).1
  have HD : Hid (DiskAt w d hv sv lv left dead held seen) := h
  have cR := fun wx (hb : Below w.heap.size w wx) => dRead_any d n hv sv lv left dead held seen wx (HD.out.below hb) hn
  clear h hk
  go_enter Tryz.func150, Tryz.ntmps150
  go_wp2
  generalize hA1 : w.alloc (.cells _ 242) = A1
  generalize hA2 : A1.alloc (.cells _ 242) = A2
  have s1 : A1.heap.size = w.heap.size + 1 := by rw [← hA1]; simp
  have b1 : Below w.heap.size w A1 := by rw [← hA1]; exact (Below.refl _ w).alloc (Nat.le_refl _) _
  have b2 : Below w.heap.size w A2 := by rw [← hA2]; exact bt b1 ((Below.refl _ A1).alloc (Nat.le_refl _) _)
  obtain ⟨Z4, hZ4, n1'⟩ : ∃ Z : Array Value, Z.size = 64 ∧ A2.heap[w.heap.size]? = some (.cells Z 242 (0, 0)) := ⟨_, rfl, by rw [← hA2, heap_alloc_old A1 _ (by omega), ← hA1]; exact heap_alloc_new w _⟩
  obtain ⟨Z, hZ, n2'⟩ : ∃ Z : Array Value, Z.size = 64 ∧ A2.heap[w.heap.size + 1]? = some (.cells Z 242 (0, 0)) := ⟨_, rfl, by rw [← hA2, ← s1]; exact heap_alloc_new A1 _⟩
  have p0 := (b2.cell (p := ⟨k, 0, none⟩) hkl).trans q0
  have s2 : w.heap.size + 1 < A2.heap.size := (Array.getElem?_eq_some_iff.1 n2').1
  have hcp : ∀ w3 h, Below A2.heap.size A2 w3 → w3.heap[h]? = some (.cells (seen[n].map byteV).toArray 5 (0, 0)) → (Builtin.copy_ #[131, 131] 3 #[.slice (some ⟨w.heap.size + 1, 0, none⟩) 64 64, .slice (some ⟨h, 0, none⟩) 64 64]).run Tryz.prog w3 = .ok (.int .i64 64) (w3.setRow (w.heap.size + 1) (seen[n].map byteV).toArray) :=
    fun w3 h hb hh => copy64 3 ((hb.block _ s2).trans n2') hZ (fun j u hu => by rw [cell_of_row w3 h j _ _ (0, 0) hh]; simpa using hu) hX0
  clear hA1 hA2
  go_region_with (go_at_call 319; refine (cR _ (bt b2 (below_same A2 1))).mono ?_; rintro e w3 ⟨rfl, hw3, hB3⟩; have hc3 := hcp w3 A2.heap.size (bt (below_same A2 1) hB3) hw3)
  have hx := (hB3.block (w.heap.size + 1) s2).trans n2'
  have h4 := (hB3.block w.heap.size (by show _ < A2.heap.size; omega)).trans n1'
  have h5 := setRow_heap w3 _ _ (seen[n].map byteV).toArray _ _ hx
  have h4' := (setRow_other w3 (w.heap.size + 1) w.heap.size (seen[n].map byteV).toArray (by omega)).trans h4
  have hB4 : Below w.heap.size w (w3.setRow (w.heap.size + 1) (seen[n].map byteV).toArray) := (bt (bt b2 (below_same A2 1)) hB3).grown (setRow_grown w3 _ _) (bt (bt b2 (below_same A2 1)) hB3).size (fun j hj => by cases hj; omega)
  have hX64 := hX0
  clear hX0
  generalize w3.setRow (w.heap.size + 1) (seen[n].map byteV).toArray = W4 at h5 h4' hB4 ⊢
  generalize hSX : seen[n] = X at h5 hX64 ⊢
  have HSX : Hid (seen[n] = X) := hSX
  clear hSX
  have hXs : (X.map byteV).toArray.size = 64 := by simp [hX64]
  have hX1 : (X.map byteV).toArray.all (·.oneCell') = true := by
    rw [Array.all_eq_true_iff_forall_mem]
    intro v hv
    exact byte_one X v (by simpa using hv)
  have HE : Hid (w.heap.size ≤ W4.heap.size ∧ Below w.heap.size w W4) := ⟨hB4.size, hB4⟩
  have h6 := setRow_heap W4 _ _ (X.map byteV).toArray _ _ h4'
  clear hcp cR n1 n2 hc3 hw3 hx h4 hB4
  go_wp2_with (first
    | (refine wpList_load_row rfl 242 (.tmp 5) rfl (w.heap.size + 1) rfl _ _ _ _ h5 Tryz.underlying242 rfl (arrSize.trans (by rw [hXs])) ?_)
    | (refine wpList_store_row rfl 242 (.tmp 4) (.tmp 14) rfl w.heap.size _ rfl rfl _ _ h4' (arrSize.trans (by rw [hXs])) (by rw [hXs, hZ4]) hX1 ?_)
    | go_in)
  refine bodyPost_ret (v := .agg (X.map byteV).toArray) (results_cell_row Tryz.results150 _ _ w.heap.size _ _ _ _ rfl h6 Tryz.underlying242 rfl (arrSize.trans (by rw [hXs]))) rfl ⟨by rw [HSX.out], ?_⟩
  exact HE.out.2.grown (setRow_grown W4 _ _) HE.out.1 (fun j hj => by cases hj; exact Nat.le_refl _)

set_option maxRecDepth 100000 in
set_option maxHeartbeats 4000000 in
/-- The head of no texts. -/
theorem readHead_zero (w : World) : Calls Tryz.prog 149 #[.agg Z64] w fun e w' => e = .returned (.tuple #[.int .i64 0, .int .i64 0]) ∧ Below w.heap.size w w' := by
  go_enter Tryz.func149, Tryz.ntmps149
  go_wp2
  generalize hA : w.alloc (.cells Z64 242) = A
  have hB : Below w.heap.size w A := by rw [← hA]; exact (Below.refl _ w).alloc (Nat.le_refl _) _
  have hb : A.heap[w.heap.size]? = some (.cells Z64 242 (0, 0)) := by rw [← hA]; exact heap_alloc_new w _
  have p0 : A.cell? ⟨w.heap.size, 0, none⟩ = some (.int .u8 0) := (cell_of_row A _ 0 _ _ (0, 0) hb).trans (by rfl)
  have p1 : A.cell? ⟨w.heap.size, 1, none⟩ = some (.int .u8 0) := (cell_of_row A _ 1 _ _ (0, 0) hb).trans (by rfl)
  have p2 : A.cell? ⟨w.heap.size, 2, none⟩ = some (.int .u8 0) := (cell_of_row A _ 2 _ _ (0, 0) hb).trans (by rfl)
  clear hA hb
  go_region
  all_goals
    go_wp2
    go_ret2
    exact ⟨rfl, bt hB (below_same A 1)⟩
end Go.Proofs.YtgnfknjopafngaaGreatDoor
/-
  THE CODE, WALKED: what lies on an empty disk.
-/
namespace Go.Proofs.YtgnfknjopafngaaGreatDoor
open Go.RowKit

set_option maxRecDepth 100000 in
theorem sectorsOf_zero (w : World) : Calls Tryz.prog 184 #[.int .i64 0] w fun e w' => e = .returned (.int .i64 0) ∧ w = w' := by
  go_enter Tryz.func184, Tryz.ntmps184
  go_wp2
  go_ret
  exact ⟨rfl, rfl⟩
set_option maxRecDepth 100000 in
theorem split_none (w : World) : Calls Tryz.prog 151 #[.string ⟨#[]⟩] w fun e w' => e = .returned (.slice none 0 0) ∧ w = w' := by
  go_enter Tryz.func151, Tryz.ntmps151
  go_wp2
  go_ret
  exact ⟨rfl, rfl⟩
set_option maxRecDepth 100000 in
set_option maxHeartbeats 4000000 in
theorem bString_none (b : Nat) (w : World) (h1 : w.cell? ⟨b, 1, none⟩ = some (.slice none 0 0)) : Calls Tryz.prog 144 #[.pointer (some ⟨b, 0, none⟩)] w fun e w' => e = .returned (.string ⟨#[]⟩) ∧ w' = w.drewN 1 := by
  have d1 : ∀ w, (Builtin.unsafeSliceData_ #[131] 257 #[.slice none 0 0]).run Tryz.prog w = .ok (.pointer none) w := fun _ => by kernel_rfl
  have d2 : ∀ w, (Builtin.unsafeString_ #[257, 3] 9 #[.pointer none, .int .i64 0]).run Tryz.prog w = .ok (.string ⟨#[]⟩) w := fun _ => by kernel_rfl
  go_enter Tryz.func144, Tryz.ntmps144
  go_wp2
  go_region
  all_goals
    go_wp2
    go_ret
    exact ⟨rfl, rfl⟩
set_option maxRecDepth 100000 in
set_option maxHeartbeats 4000000 in
theorem load_none (k : Nat) (w : World) : Calls Tryz.prog 152 #[.pointer (some ⟨k, 0, none⟩), .int .i64 0] w fun e w' => e = .returned (.string ⟨#[]⟩) ∧ Below w.heap.size w w' := by
  have c1 := sectorsOf_zero
  have c2 := bString_none
  go_enter Tryz.func152, Tryz.ntmps152
  go_wp2_with (first
    | (go_at_call 184; refine (c1 _).mono ?_; rintro e w' ⟨rfl, rfl⟩))
  generalize hA : w.alloc (.cells #[.pointer none, .slice none 0 0] 217) = A
  have hB : Below w.heap.size w A := by rw [← hA]; exact (Below.refl _ w).alloc (Nat.le_refl _) _
  have q1 : A.cell? ⟨w.heap.size, 1, none⟩ = some (.slice none 0 0) := by rw [← hA]; exact new_at w [.pointer none, .slice none 0 0] _ 1 _ rfl
  clear hA c1
  go_loopw [10] (fun i wr => i = .int .i64 0 ∧ A = wr) (fun _ _ => 0)
  case atStart => exact ⟨rfl, rfl⟩
  case round =>
    obtain ⟨rfl, rfl⟩ := hrel
    go_wp2_with (first | (go_at_call 144; refine (c2 _ _ q1).mono ?_; rintro e w' ⟨rfl, hw'⟩))
    go_ret
    exact ⟨rfl, bt hB (below_same A 1)⟩

set_option maxRecDepth 100000 in
set_option maxHeartbeats 4000000 in
theorem dOpen_zero (d n : Nat) (hv sv lv : Value) (left : Int) (dead : Bool) (held : List (List UInt8)) (w : World) (h : DiskAt w d hv sv lv left dead held (List.replicate n zeros)) (hn : 0 < n) :
    Calls Tryz.prog 114 #[.iface 84 (.pointer (some ⟨d, 0, none⟩))] w fun e w' => e = .returned (.tuple #[.pointer (some ⟨w.heap.size, 0, none⟩), .slice none 0 0]) ∧ KnownAt w' w.heap.size d 0 ∧ Below w.heap.size w w' := by
  have HD : Hid (DiskAt w d hv sv lv left dead held (List.replicate n zeros)) := h
  have cH := readHead_zero
  have cL := load_none w.heap.size
  have cS := split_none
  generalize hA : w.alloc (.cells #[.iface 84 (.pointer (some ⟨d, 0, none⟩)), .int .i64 0] 196) = A
  have hB : Below w.heap.size w A := by rw [← hA]; exact (Below.refl _ w).alloc (Nat.le_refl _) _
  have hk : KnownAt A w.heap.size d 0 := by rw [← hA]; exact heap_alloc_new w _
  have cK := sector_any w.heap.size d 0 0 hv sv lv left dead held (List.replicate n zeros) A hk (HD.out.below hB) (by rw [List.length_replicate]; exact hn)
  rw [List.getElem_replicate] at cK
  have HK : Hid (KnownAt A w.heap.size d 0) := hk
  have hAs : w.heap.size < A.heap.size := (Array.getElem?_eq_some_iff.1 hk).1
  clear h hk
  go_enter Tryz.func114, Tryz.ntmps114
  go_wp2_with (first
    | (go_at_call 150; refine cK.mono ?_; rintro e w2 ⟨rfl, hB2⟩)
    | (go_at_call 149; refine (cH w2).mono ?_; rintro e w3 ⟨rfl, hB3⟩; have k3 : w3.heap[w.heap.size]? = some (.cells #[.iface 84 (.pointer (some ⟨d, 0, none⟩)), .int .i64 0] 196 (0, 0)) := ((bt hB2 hB3).block _ hAs).trans HK.out; have x1 : w3.cell? ⟨w.heap.size, 1, none⟩ = some (.int .i64 0) := (cell_of_row w3 _ 1 _ _ (0, 0) k3).trans (by rfl); have x2 : w3.frozen? ⟨w.heap.size, 1, none⟩ = false := frozen_of_row w3 _ _ _ _ k3)
    | (go_at_call 152; refine (cL _).mono ?_; rintro e w4 ⟨rfl, hB4⟩)
    | (go_at_call 151; refine (cS _).mono ?_; rintro e w5 ⟨rfl, rfl⟩))
  go_ret2
  have k4 := heap_setCell_same w3 w.heap.size 1 _ _ (.int .i64 0) k3
  have hB13 : Below w.heap.size w w3 := bt (bt hB hB2) hB3
  have hs3 := (Array.getElem?_eq_some_iff.1 k3).1
  exact ⟨rfl, (hB4.block w.heap.size (by simpa using hs3)).trans k4, bt (hB13.setCell (Nat.le_refl _) _) hB4⟩
end Go.Proofs.YtgnfknjopafngaaGreatDoor
/-
  THE CODE, WALKED: Found, Open, and plain's own session on an empty disk.
-/
namespace Go.Proofs.YtgnfknjopafngaaGreatDoor
open Go.RowKit Go.Maps

def StoreAt (w : World) (s k b : Nat) : Prop := w.heap[s]? = some (.cells #[.pointer (some ⟨k, 0, none⟩), .map (some b)] 140 (0, 0))
def SessAt (w : World) (x d : Nat) (sv : Value) : Prop := w.heap[x]? = some (.cells #[.pointer (some ⟨d, 0, none⟩), sv] 88 (0, 0))
theorem StrsIn.none (w : World) : StrsIn w (.slice .none 0 0) [] := .inl ⟨rfl, rfl, rfl⟩

set_option maxRecDepth 100000 in
set_option maxHeartbeats 4000000 in
theorem found_none (w : World) (hR : Ready w) : Calls Tryz.prog 115 #[.slice none 0 0] w fun e w' => ∃ b, e = .returned (.map (some b)) ∧ SetIn w' b [] ∧ Below w.heap.size w w' := by
  have hmm := @run_makeMap Tryz.prog
  generalize hA : w.alloc (.map #[] 0) = A
  have hB : Below w.heap.size w A := by rw [← hA]; exact (Below.refl _ w).alloc (Nat.le_refl _) _
  have hS : SetIn A w.heap.size [] := ⟨fun _ => .int .i64 0, by rw [← hA]; exact StrMap.made w, fun p hp => by cases hp⟩
  have hR2 := hR.below hB
  have cA := addAll_any w.heap.size [] (.slice none 0 0) [] A hR2.2 hR2.1 hS (StrsIn.none A) (by simp) (by simp)
  have e0 : addedS [] (([] : List ByteArray).map fun t => t.data.toList) = .inr [] := rfl
  rw [e0] at cA
  clear hS hR hR2 e0
  go_enter Tryz.func115, Tryz.ntmps115
  go_wp2_with (go_at_call 153; refine cA.mono ?_; rintro e w2 ⟨hB2, b, rfl, hS2⟩)
  go_ret
  exact ⟨b, rfl, hS2, bt hB hB2⟩

set_option maxRecDepth 100000 in
set_option maxHeartbeats 4000000 in
theorem pOpen_zero (d n : Nat) (hv sv lv : Value) (left : Int) (dead : Bool) (held : List (List UInt8)) (w : World) (hR : Ready w) (h : DiskAt w d hv sv lv left dead held (List.replicate n zeros)) (hn : 0 < n) :
    Calls Tryz.prog 72 #[.iface 84 (.pointer (some ⟨d, 0, none⟩))] w fun e w' => ∃ s k b, e = .returned (.tuple #[.pointer (some ⟨s, 0, none⟩), .nilIface]) ∧ StoreAt w' s k b ∧ KnownAt w' k d 0 ∧ SetIn w' b [] ∧ w.heap.size ≤ s ∧ Below w.heap.size w w' := by
  have cO := dOpen_zero d n hv sv lv left dead held w h hn
  have HR : Hid (Ready w) := hR
  clear h hR
  go_enter Tryz.func72, Tryz.ntmps72
  go_wp2_with (go_at_call 114; refine cO.mono ?_; rintro e w1 ⟨rfl, hk, hB1⟩; have HK : Hid (KnownAt w1 w.heap.size d 0) := hk; clear hk)
  have cF := found_none w1 (HR.out.below hB1)
  refine cF.mono ?_
  rintro e w2 ⟨b, rfl, hS, hB2⟩
  have HS : Hid (SetIn w2 b []) := hS
  clear hS cF cO
  go_wp2
  go_ret2
  have hk2 : w.heap.size < w1.heap.size := (Array.getElem?_eq_some_iff.1 HK.out).1
  have hB3 : Below w2.heap.size w2 (w2.alloc (.cells #[.pointer (some ⟨w.heap.size, 0, none⟩), .map (some b)] 140)) := (Below.refl _ w2).alloc (Nat.le_refl _) _
  exact ⟨w2.heap.size, w.heap.size, b, rfl, heap_alloc_new w2 _, (hB3.block _ (Nat.lt_of_lt_of_le hk2 hB2.size)).trans ((hB2.block _ hk2).trans HK.out), HS.out.below hB3, Nat.le_trans hB1.size hB2.size, bt (bt hB1 hB2) hB3⟩

theorem SetIn.kept0 {w w' : World} {b : Nat} {row : Option Nat} (h : SetIn w b []) (hg : w.grownBy w' row) (hne : some b ≠ row) : SetIn w' b [] := by
  obtain ⟨f, h1, _⟩ := h
  exact ⟨f, h1.kept hg hne, fun p hp => by cases hp⟩
abbrev okV : Value := .agg #[.int .i64 0, .int .i64 0, .int .i64 0, .string ⟨#[]⟩]
abbrev okC : Array Value := #[.int .i64 0, .int .i64 0, .int .i64 0, .string ⟨#[]⟩]
theorem okC_cell {w : World} {b : Nat} {t : TypeId} (h : w.heap[b]? = some (.cells okC t (0, 0))) : w.cell? ⟨b, 0, none⟩ = some (.int .i64 0) ∧ w.cell? ⟨b, 1, none⟩ = some (.int .i64 0) ∧ w.cell? ⟨b, 2, none⟩ = some (.int .i64 0) ∧ w.cell? ⟨b, 3, none⟩ = some (.string ⟨#[]⟩) ∧ ∀ o, w.frozen? ⟨b, o, none⟩ = false :=
  ⟨(cell_of_row w _ 0 _ _ (0, 0) h).trans rfl, (cell_of_row w _ 1 _ _ (0, 0) h).trans rfl, (cell_of_row w _ 2 _ _ (0, 0) h).trans rfl, (cell_of_row w _ 3 _ _ (0, 0) h).trans rfl, fun o => frozen_of_row w _ o _ _ h⟩

theorem DiskAt.kept {w w' : World} {d r : Nat} {hv sv lv : Value} {left : Int} {dead : Bool} {held seen : List (List UInt8)} (h : DiskAt w d hv sv lv left dead held seen) (hg : w.grownBy w' (some r)) (hlt : r < d) (hn : ∀ cur fz, w.heap[r]? ≠ some (.cells cur 5 fz)) : DiskAt w' d hv sv lv left dead held seen := by
  have hl : ∀ v l, Secs w (d + 1) v l → v.ownBlock = none ∨ v.ownBlock ≠ some r := fun v l h => by
    cases hq : v.ownBlock with
    | none => exact .inl rfl
    | some g => exact .inr (fun e => by have := h.lt g hq; cases e; omega)
  have hn' : ∀ j, some r = some j → ∀ cur fz, w.heap[j]? ≠ some (.cells cur 5 fz) := fun j hj => by cases hj; exact hn
  exact ⟨(hg.block d (Array.getElem?_eq_some_iff.1 h.blk).1 (fun e => by have := Option.some.inj e; omega)).trans h.blk, h.held.kept hg hn' (hl _ _ h.held), h.seen.kept hg hn' (hl _ _ h.seen), h.apart⟩
theorem grown4 (w : World) (r : Nat) (a b c d : Value) : w.grownBy ((((w.setCell ⟨r, 0, none⟩ a).setCell ⟨r, 1, none⟩ b).setCell ⟨r, 2, none⟩ c).setCell ⟨r, 3, none⟩ d) (some r) := by
  refine ⟨rfl, rfl, rfl, by simp, fun j _ hj => ?_⟩
  have h : j ≠ r := fun e => hj (by rw [e])
  rw [Below.heap_setCell _ _ _ _ h, Below.heap_setCell _ _ _ _ h, Below.heap_setCell _ _ _ _ h, Below.heap_setCell _ _ _ _ h]
set_option maxRecDepth 100000 in
set_option maxHeartbeats 400000 in
theorem open_zero (x d n : Nat) (s0 hv sv lv : Value) (left : Int) (dead : Bool) (held : List (List UInt8)) (w : World) (hR : Ready w) (hx : SessAt w x d s0) (h : DiskAt w d hv sv lv left dead held (List.replicate n zeros)) (hn : 0 < n) :
    Calls Tryz.prog 45 #[.pointer (some ⟨x, 0, none⟩)] w fun e w' => ∃ s k b, e = .returned okV ∧ SessAt w' x d (.pointer (some ⟨s, 0, none⟩)) ∧ StoreAt w' s k b ∧ KnownAt w' k d 0 ∧ SetIn w' b [] ∧ w.grownBy w' (some x) := by
  generalize hA : w.alloc (.cells okC 23) = A
  have hB : Below w.heap.size w A := by rw [← hA]; exact (Below.refl _ w).alloc (Nat.le_refl _) _
  have hr : A.heap[w.heap.size]? = some (.cells okC 23 (0, 0)) := by rw [← hA]; exact heap_alloc_new w _
  have hxl : x < w.heap.size := (Array.getElem?_eq_some_iff.1 hx).1
  have hxA : A.heap[x]? = _ := (hB.block x hxl).trans hx
  have q0 : A.cell? ⟨x, 0, none⟩ = some (.pointer (some ⟨d, 0, none⟩)) := (cell_of_row A _ 0 _ _ (0, 0) hxA).trans rfl
  have cO := pOpen_zero d n hv sv lv left dead held A (hR.below hB) (h.below hB) hn
  have cP := parts_nil
  have HX : Hid (A.heap[x]? = some (.cells #[.pointer (some ⟨d, 0, none⟩), s0] 88 (0, 0))) := hxA
  have HRr : Hid (A.heap[w.heap.size]? = some (.cells okC 23 (0, 0))) := hr
  have hAs : w.heap.size < A.heap.size := (Array.getElem?_eq_some_iff.1 hr).1
  clear hR h hx hxA hr
  go_enter Tryz.func45, Tryz.ntmps45
  go_wp2_with fail
  refine cO.mono ?_
  rintro e w1 ⟨s, k, b, rfl, hS, hK, hT, hs, hB1⟩
  have hx1 : w1.heap[x]? = some (.cells #[.pointer (some ⟨d, 0, none⟩), s0] 88 (0, 0)) := (hB1.block x (by omega)).trans HX.out
  have x1 : w1.cell? ⟨x, 1, none⟩ = some s0 := (cell_of_row w1 _ 1 _ _ (0, 0) hx1).trans rfl
  have x2 : w1.frozen? ⟨x, 1, none⟩ = false := frozen_of_row w1 _ _ _ _ hx1
  generalize hW1 : w1.setCell ⟨x, 1, none⟩ (.pointer (some ⟨s, 0, none⟩)) = W1
  have g1 : w1.grownBy W1 (some x) := by rw [← hW1]; exact ⟨rfl, rfl, rfl, by simp, fun j _ hj => Below.heap_setCell _ _ _ _ (fun e => hj (by rw [e]))⟩
  have k1 : W1.heap[x]? = some (.cells #[.pointer (some ⟨d, 0, none⟩), .pointer (some ⟨s, 0, none⟩)] 88 (0, 0)) := by rw [← hW1]; exact heap_setCell_same w1 x 1 _ _ _ hx1
  have hb1 : b < w1.heap.size := hT.lt
  have hbx : b ≠ x := by
    intro e
    obtain ⟨es, c, hh⟩ := hT.choose_spec.1.block?
    rw [e, hx1] at hh
    cases hh
  have hkx : k ≠ x := by
    intro e
    rw [e] at hK
    unfold KnownAt at hK
    rw [hx1] at hK
    cases hK
  have HS : Hid (StoreAt W1 s k b ∧ KnownAt W1 k d 0 ∧ SetIn W1 b []) :=
    ⟨(g1.block s (Array.getElem?_eq_some_iff.1 hS).1 (fun e => by have := Option.some.inj e; omega)).trans hS, (g1.block k (Array.getElem?_eq_some_iff.1 hK).1 (fun e => hkx (Option.some.inj e))).trans hK, hT.kept0 g1 (fun e => hbx (Option.some.inj e))⟩
  have HG : Hid (A.grownBy W1 (some x)) := ⟨g1.os.trans hB1.os, g1.tape.trans hB1.tape, g1.output.trans hB1.output, Nat.le_trans hB1.size g1.size, fun j hj hne => (g1.block j (Nat.lt_of_lt_of_le hj hB1.size) hne).trans (hB1.block j hj)⟩
  have HK1 : Hid (W1.heap[x]? = some (.cells #[.pointer (some ⟨d, 0, none⟩), .pointer (some ⟨s, 0, none⟩)] 88 (0, 0))) := k1
  clear hS hK hT hs cO hx1 k1 g1 hbx hkx hb1 hB1
  go_wp2_with fail
  refine (cP W1).mono ?_
  rintro e w2 ⟨rfl, hB2⟩
  clear cP x1 x2 q0 hW1
  go_upto_region 6 with fail
  generalize hW2 : w2.alloc (.cells #[.int .i64 0, .int .i64 0, .int .i64 0, .string ⟨#[]⟩] 23) = W2
  have hB3 : Below W1.heap.size W1 W2 := by rw [← hW2]; exact bt hB2 ((Below.refl _ w2).alloc (Nat.le_refl _) _)
  obtain ⟨y0, y1, y2, y3, yf⟩ := okC_cell (b := w2.heap.size) (t := 23) (w := W2) (by rw [← hW2]; exact heap_alloc_new w2 _)
  have hr2 : W2.heap[w.heap.size]? = some (.cells okC 23 (0, 0)) := (hB3.block _ (by have := HG.out.size; omega)).trans ((HG.out.block _ hAs (fun e => by have := Option.some.inj e; omega)).trans HRr.out)
  obtain ⟨z0, z1, z2, z3, zf⟩ := okC_cell hr2
  have HB3 : Hid (Below W1.heap.size W1 W2) := hB3
  have HR2 : Hid (W2.heap[w.heap.size]? = some (.cells okC 23 (0, 0))) := hr2
  clear hB3 hB2 hr2 yf hA hW2
  go_wp2
  have G := grown4 W2 w.heap.size (.int .i64 0) (.int .i64 0) (.int .i64 0) (.string ⟨#[]⟩)
  obtain ⟨t1, t2, t3⟩ := HS.out
  have b3 := HB3.out
  have s1 : StoreAt W2 s k b := (b3.block s (Array.getElem?_eq_some_iff.1 t1).1).trans t1
  have s2 : KnownAt W2 k d 0 := (b3.block k (Array.getElem?_eq_some_iff.1 t2).1).trans t2
  have s3 : SetIn W2 b [] := t3.below b3
  have s4 : W2.heap[x]? = _ := (b3.block x (Array.getElem?_eq_some_iff.1 HK1.out).1).trans HK1.out
  have n1 : s ≠ w.heap.size := fun e => by
    unfold StoreAt at s1
    rw [e, HR2.out] at s1
    cases s1
  have n2 : k ≠ w.heap.size := fun e => by
    unfold KnownAt at s2
    rw [e, HR2.out] at s2
    cases s2
  have n3 : b ≠ w.heap.size := fun e => by
    obtain ⟨es, c, hh⟩ := s3.choose_spec.1.block?
    rw [e, HR2.out] at hh
    cases hh
  refine bodyPost_ret (v := okV) (by simp [results, Tryz.results45, go_sem, z0, z1, z2, z3]) rfl ⟨s, k, b, rfl, ?_, ?_, ?_, ?_, ?_⟩
  · exact (G.block x (Array.getElem?_eq_some_iff.1 s4).1 (fun e => by have := Option.some.inj e; omega)).trans s4
  · exact (G.block s (Array.getElem?_eq_some_iff.1 s1).1 (fun e => n1 (Option.some.inj e))).trans s1
  · exact (G.block k (Array.getElem?_eq_some_iff.1 s2).1 (fun e => n2 (Option.some.inj e))).trans s2
  · exact s3.kept0 G (fun e => n3 (Option.some.inj e))
  · have hg := HG.out
    refine ⟨G.os.trans (b3.os.trans (hg.os.trans hB.os)), G.tape.trans (b3.tape.trans (hg.tape.trans hB.tape)), G.output.trans (b3.output.trans (hg.output.trans hB.output)), Nat.le_trans hB.size (Nat.le_trans hg.size (Nat.le_trans b3.size G.size)), fun j hj hne => ?_⟩
    have e1 := hB.size
    have e2 := hg.size
    have e3 := b3.size
    exact (G.block j (by omega) (fun e => by have := Option.some.inj e; omega)).trans ((b3.block j (by omega)).trans ((hg.block j (by omega) hne).trans (hB.block j hj)))

set_option maxRecDepth 100000 in
set_option maxHeartbeats 8000000 in
theorem new_any (n : Int) (w : World) (hR : Ready w) : Calls Tryz.prog 20 #[.int .i64 n] w fun e w' => ∃ x d s k b hv sv, e = .returned (.tuple #[.pointer (some ⟨x, 0, none⟩), okV]) ∧ SessAt w' x d (.pointer (some ⟨s, 0, none⟩)) ∧ StoreAt w' s k b ∧ KnownAt w' k d 0 ∧ SetIn w' b [] ∧
    DiskAt w' d hv sv (.slice none 0 0) (-1) false (List.replicate (sectorsN n) zeros) (List.replicate (sectorsN n) zeros) ∧ Below w.heap.size w w' := by
  obtain ⟨m1, m2⟩ := sectorsN_le n
  generalize hA : w.alloc (.cells okC 23) = A
  have hB : Below w.heap.size w A := by rw [← hA]; exact (Below.refl _ w).alloc (Nat.le_refl _) _
  go_enter Tryz.func20, Tryz.ntmps20
  go_upto_region 2 with fail
  have hmn : min (max n 16) 256 = ((sectorsN n : Nat) : Int) := by
    unfold sectorsN
    split
    · omega
    · split <;> omega
  rw [hmn]
  generalize hNn : sectorsN n = N at m1 m2 ⊢
  have HN : Hid (sectorsN n = N) := hNn
  clear hNn
  have hr : A.heap[w.heap.size]? = some (.cells okC 23 (0, 0)) := by rw [← hA]; exact heap_alloc_new w _
  have hAs : w.heap.size < A.heap.size := (Array.getElem?_eq_some_iff.1 hr).1
  have HRr : Hid (A.heap[w.heap.size]? = some (.cells okC 23 (0, 0))) := hr
  have HRd : Hid (Ready A) := hR.below hB
  have cD := newDisk_any N A m2
  clear hA hr hR hmn
  go_wp2_with fail
  refine cD.mono ?_
  rintro e w1 ⟨hv, sv, rfl, hD, hB1⟩
  have HD : Hid (DiskAt w1 A.heap.size hv sv (.slice none 0 0) (-1) false (List.replicate N zeros) (List.replicate N zeros)) := hD
  clear cD hD
  go_upto_region 3 with fail
  generalize hX : w1.alloc (.cells #[.pointer (some ⟨A.heap.size, 0, none⟩), .pointer none] 88) = X1
  have hBX : Below w1.heap.size w1 X1 := by rw [← hX]; exact (Below.refl _ w1).alloc (Nat.le_refl _) _
  have hXs : SessAt X1 w1.heap.size A.heap.size (.pointer none) := by rw [← hX]; exact heap_alloc_new w1 _
  have cO := open_zero w1.heap.size A.heap.size N (.pointer none) hv sv _ _ _ _ X1 ((HRd.out.below hB1).below hBX) hXs (HD.out.below hBX) (by omega)
  have hXl : w1.heap.size < X1.heap.size := (Array.getElem?_eq_some_iff.1 hXs).1
  have HX1 : Hid (SessAt X1 w1.heap.size A.heap.size (.pointer none)) := hXs
  clear hX hXs
  go_wp2_with fail
  refine cO.mono ?_
  rintro e w2 ⟨s, k, b, rfl, t1, t2, t3, t4, hG⟩
  have HT : Hid (SessAt w2 w1.heap.size A.heap.size (.pointer (some ⟨s, 0, none⟩)) ∧ StoreAt w2 s k b ∧ KnownAt w2 k A.heap.size 0 ∧ SetIn w2 b [] ∧ X1.grownBy w2 (some w1.heap.size)) := ⟨t1, t2, t3, t4, hG⟩
  clear t1 t2 t3 t4 hG cO
  go_upto_region 4 with fail
  generalize hW4 : w2.alloc (.cells #[.int .i64 0, .int .i64 0, .int .i64 0, .string ⟨#[]⟩] 23) = W4
  have hB4 : Below w2.heap.size w2 W4 := by rw [← hW4]; exact (Below.refl _ w2).alloc (Nat.le_refl _) _
  obtain ⟨y0, y1, y2, y3, yf⟩ := okC_cell (b := w2.heap.size) (t := 23) (w := W4) (by rw [← hW4]; exact heap_alloc_new w2 _)
  obtain ⟨t1, t2, t3, t4, hG⟩ := HT.out
  have hs1 := hB1.size
  have hs2 := hBX.size
  have hs3 := hG.size
  have hr4 : W4.heap[w.heap.size]? = some (.cells okC 23 (0, 0)) := (hB4.block _ (by omega)).trans ((hG.block _ (by omega) (fun e => by have := Option.some.inj e; omega)).trans ((hBX.block _ (by omega)).trans ((hB1.block _ hAs).trans HRr.out)))
  obtain ⟨z0, z1, z2, z3, zf⟩ := okC_cell hr4
  have HE : Hid (SessAt W4 w1.heap.size A.heap.size (.pointer (some ⟨s, 0, none⟩)) ∧ StoreAt W4 s k b ∧ KnownAt W4 k A.heap.size 0 ∧ SetIn W4 b [] ∧ DiskAt W4 A.heap.size hv sv (.slice none 0 0) (-1) false (List.replicate N zeros) (List.replicate N zeros) ∧ Below w.heap.size w W4 ∧ W4.heap[w.heap.size]? = some (.cells okC 23 (0, 0)) ∧ w.heap.size < A.heap.size ∧ A.heap.size ≤ w1.heap.size) := by
    refine ⟨(hB4.block _ (Array.getElem?_eq_some_iff.1 t1).1).trans t1, (hB4.block _ (Array.getElem?_eq_some_iff.1 t2).1).trans t2, (hB4.block _ (Array.getElem?_eq_some_iff.1 t3).1).trans t3, t4.below hB4, ?_, ?_, hr4, hAs, hs1⟩
    · have d1 := HD.out.below hBX
      have hn8 : ∀ j, some w1.heap.size = some j → ∀ cur fz, X1.heap[j]? ≠ some (.cells cur 5 fz) := fun j hj cur fz hh => by
        cases hj
        have := HX1.out
        unfold SessAt at this
        rw [this] at hh
        cases hh
      have hl : ∀ v l, Secs w1 (A.heap.size + 1) v l → v.ownBlock = none ∨ v.ownBlock ≠ some w1.heap.size := fun v l h => by
        cases hq : v.ownBlock with
        | none => exact .inl rfl
        | some g => exact .inr (fun e => by have := h.lt g hq; cases e; omega)
      have d2 : DiskAt w2 A.heap.size hv sv (.slice none 0 0) (-1) false (List.replicate N zeros) (List.replicate N zeros) :=
        ⟨(hG.block _ (Array.getElem?_eq_some_iff.1 d1.blk).1 (fun e => by have := Option.some.inj e; have := (Array.getElem?_eq_some_iff.1 HD.out.blk).1; omega)).trans d1.blk, d1.held.kept hG hn8 (hl _ _ HD.out.held), d1.seen.kept hG hn8 (hl _ _ HD.out.seen), d1.apart⟩
      exact d2.below hB4
    · refine ⟨hB4.os.trans (hG.os.trans (hBX.os.trans (hB1.os.trans hB.os))), hB4.tape.trans (hG.tape.trans (hBX.tape.trans (hB1.tape.trans hB.tape))), hB4.output.trans (hG.output.trans (hBX.output.trans (hB1.output.trans hB.output))), by have := hB.size; have := hB4.size; omega, fun j hj => ?_⟩
      have := hB.size
      exact (hB4.block j (by omega)).trans ((hG.block j (by omega) (fun e => by have := Option.some.inj e; omega)).trans ((hBX.block j (by omega)).trans ((hB1.block j (by omega)).trans (hB.block j hj))))
  clear hr4 hW4 hB4 t1 t2 t3 t4 hG hs1 hs2 hs3 yf HT HD hBX hB1 hB
  go_region
  go_wp2
  have G0 := grown4 W4 w.heap.size (.int .i64 0) (.int .i64 0) (.int .i64 0) (.string ⟨#[]⟩)
  have G : W4.grownBy (((((W4.setCell ⟨w.heap.size, 0, none⟩ (.int .i64 0)).setCell ⟨w.heap.size, 1, none⟩ (.int .i64 0)).setCell ⟨w.heap.size, 2, none⟩ (.int .i64 0)).setCell ⟨w.heap.size, 3, none⟩ (.string ⟨#[]⟩)).drew) (some w.heap.size) := ⟨G0.os, G0.tape, G0.output, G0.size, G0.block⟩
  obtain ⟨s4, s1, s2, s3, s5, s6, s7, s8, s9⟩ := HE.out
  have n1 : s ≠ w.heap.size := fun e => by
    unfold StoreAt at s1
    rw [e, s7] at s1
    cases s1
  have n2 : k ≠ w.heap.size := fun e => by
    unfold KnownAt at s2
    rw [e, s7] at s2
    cases s2
  have n3 : b ≠ w.heap.size := fun e => by
    obtain ⟨es, c, hh⟩ := s3.choose_spec.1.block?
    rw [e, s7] at hh
    cases hh
  refine bodyPost_ret (v := .tuple #[.pointer (some ⟨w1.heap.size, 0, none⟩), okV]) (by simp [results, Tryz.results20, go_sem, z0, z1, z2, z3]) rfl ⟨_, A.heap.size, s, k, b, hv, sv, rfl, ?_, ?_, ?_, ?_, ?_, ?_⟩
  · exact (G.block _ (Array.getElem?_eq_some_iff.1 s4).1 (fun e => by have := Option.some.inj e; omega)).trans s4
  · exact (G.block s (Array.getElem?_eq_some_iff.1 s1).1 (fun e => n1 (Option.some.inj e))).trans s1
  · exact (G.block k (Array.getElem?_eq_some_iff.1 s2).1 (fun e => n2 (Option.some.inj e))).trans s2
  · exact s3.kept0 G (fun e => n3 (Option.some.inj e))
  · rw [HN.out]
    exact s5.kept G s8 (fun cur fz hh => by rw [s7] at hh; cases hh)
  · exact s6.grown G s6.size (fun j hj => by cases hj; exact Nat.le_refl _)
end Go.Proofs.YtgnfknjopafngaaGreatDoor
