import Derived.Test.YtgnfknjopafngaaGreatDoorKsab
import Derived.Test.YtgnfknjopafngaaGreatDoorKsx
import Derived.Test.YtgnfknjopafngaaGreatDoorKsh
import Derived.BigRegionIn
import Derived.Test.YtgnfknjopafngaaGreatDoorKsy
namespace Go.Proofs.YtgnfknjopafngaaGreatDoor
open Go.RowKit Go.Maps
def splitT (t : List UInt8) : List (List UInt8) := match t with
  | [] => []
  | x :: l => M.cutS (x :: l) [10, 10]
theorem splitT_packed {l : List M.Pk} (hb : ∀ p ∈ l, M.Back p) (ha : M.Apart l) : splitT (M.packed l) = M.textsS l := by
  cases l with
  | nil => rfl
  | cons p l =>
    obtain ⟨h1, h2⟩ := M.packed_cut hb ha (by simp)
    cases hp : M.packed (p :: l) with
    | nil => exact absurd hp h2
    | cons x k =>
      rw [hp] at h1
      exact h1
theorem strs_own {w : World} {B : Nat} {v : Value} {l : List (List UInt8)} (h : w.ownsRow B 9 1 v l.length (l.map strV)) : StrsIn w v (l.map fun t => ⟨t.toArray⟩) := by
  have e : (l.map fun t => (⟨t.toArray⟩ : ByteArray)).map Value.string = l.map strV := by rw [List.map_map]; rfl
  show RowIn w 0 w.heap.size v _ _
  rw [e, List.length_map]
  obtain h | ⟨g, cap, h1, h2, h3, h4, h5⟩ := RowIn.own h
  · exact .inl h
  · exact .inr ⟨g, cap, h1, h2, Nat.zero_le _, h4, h5⟩
set_option maxRecDepth 100000 in
set_option maxHeartbeats 2000000 in
theorem split_any (t : List UInt8) (w : World) (hM : MaxIs w) (hl : t.length ≤ 1000000) (hn : (splitT t).length ≤ 10000) :
    Calls Tryz.prog 151 #[.string ⟨t.toArray⟩] w fun e w' => (∃ a n c, e = .returned (.slice a n c) ∧ w'.ownsRow w.heap.size 9 1 (.slice a n c) (splitT t).length ((splitT t).map strV)) ∧ Below w.heap.size w w' := by
  cases t with
  | nil =>
    refine (split_none w).mono ?_
    rintro e w' ⟨rfl, rfl⟩
    exact ⟨⟨_, _, _, rfl, World.ownsRow_nil _ _ _ _⟩, Below.refl _ _⟩
  | cons x l =>
    have c := split_lib ⟨(x :: l).toArray⟩ ⟨#[10, 10]⟩ ((splitT (x :: l)).map fun t => ⟨t.toArray⟩) w hM (by simpa [ByteArray.size] using hl) (by decide) (by rw [List.map_map]; show M.cutS (x :: l) [10, 10] = _; exact (List.map_id _).symm)
    have hlen : (((splitT (x :: l)).map fun t => (⟨t.toArray⟩ : ByteArray)).length) = (splitT (x :: l)).length := List.length_map ..
    rw [hlen, List.map_map] at c
    have hw2 : (w.alloc (.cells (((splitT (x :: l)).map strV)).toArray 9)).ownsRow w.heap.size 9 1 (.slice (some ⟨w.heap.size, 0, none⟩) (splitT (x :: l)).length (splitT (x :: l)).length) (splitT (x :: l)).length ((splitT (x :: l)).map strV) := by
      refine ⟨by simp, .inr ⟨w.heap.size, (splitT (x :: l)).length, _, rfl, Nat.le_refl _, heap_alloc_new w _, Nat.le_refl _, ?_, by simp, by rw [Nat.mul_one, List.take_of_length_le (by simp)]⟩⟩
      unfold maxLen
      omega
    have HO : Hid _ := hw2
    have hB : Below w.heap.size w (w.alloc (.cells (((splitT (x :: l)).map strV)).toArray 9)) := (Below.refl _ w).alloc (Nat.le_refl _) _
    have e0 : List.map (Value.string ∘ fun t => (⟨t.toArray⟩ : ByteArray)) (splitT (x :: l)) = (splitT (x :: l)).map strV := rfl
    rw [e0] at c
    generalize w.alloc (.cells (((splitT (x :: l)).map strV)).toArray 9) = A at c hw2 hB HO
    clear hw2 e0 hlen
    go_enter Tryz.func151, Tryz.ntmps151
    go_wp2_with (go_at_call 85; refine c.mono ?_; rintro e w2 ⟨rfl, rfl⟩)
    go_ret
    exact ⟨⟨_, _, _, rfl, HO.out⟩, hB⟩
set_option maxRecDepth 100000 in
set_option maxHeartbeats 4000000 in
theorem dOpen_any (d n half : Nat) (hv sv lv : Value) (D : M.Dk) (t : List UInt8) (w : World) (hM : MaxIs w) (h : DiskIs w d hv sv lv D) (hl : M.Lies D.seen n half t) (h1 : 16 ≤ n) (h2 : n ≤ 256) (hn : (splitT t).length ≤ 10000) :
    Calls Tryz.prog 114 #[.iface 84 (.pointer (some ⟨d, 0, none⟩))] w fun e w' => (∃ a m c, e = .returned (.tuple #[.pointer (some ⟨w.heap.size, 0, none⟩), .slice a m c]) ∧ w'.ownsRow w.heap.size 9 1 (.slice a m c) (splitT t).length ((splitT t).map strV)) ∧ KnownAt w' w.heap.size d half ∧ Below w.heap.size w w' := by
  obtain ⟨x0, hx0, hx1⟩ := hl.head
  have HD : Hid (DiskIs w d hv sv lv D) := h
  have HM : Hid (MaxIs w) := hM
  have HL : Hid (M.Lies D.seen n half t) := hl
  have hsm := hl.small
  have cH := fun wx => readHead_any x0 half t.length wx hx1
  generalize hA : w.alloc (.cells #[.iface 84 (.pointer (some ⟨d, 0, none⟩)), .int .i64 0] 196) = A
  have hB : Below w.heap.size w A := by rw [← hA]; exact (Below.refl _ w).alloc (Nat.le_refl _) _
  have hk : KnownAt A w.heap.size d 0 := by rw [← hA]; exact heap_alloc_new w _
  have hlt : 0 < D.seen.length := by rw [hl.len]; omega
  have cK := sector_any w.heap.size d 0 0 hv sv lv D.left D.dead D.held D.seen A hk (h.below hB).diskAt hlt
  have e0 : D.seen[0] = x0 := by
    rw [List.getElem?_eq_getElem hlt] at hx0
    exact Option.some.inj hx0
  rw [e0] at cK
  have HK : Hid (KnownAt A w.heap.size d 0) := hk
  have hAs : w.heap.size < A.heap.size := (Array.getElem?_eq_some_iff.1 hk).1
  clear h hk hl hx0 hx1 e0 hM
  go_enter Tryz.func114, Tryz.ntmps114
  go_wp2_with (first
    | (go_at_call 150; refine cK.mono ?_; rintro e w2 ⟨rfl, hB2⟩)
    | (go_at_call 149; refine (cH w2).mono ?_; rintro e w3 ⟨rfl, hB3⟩; have k3 : w3.heap[w.heap.size]? = some (.cells #[.iface 84 (.pointer (some ⟨d, 0, none⟩)), .int .i64 0] 196 (0, 0)) := ((bt hB2 hB3).block _ hAs).trans HK.out; have x1 : w3.cell? ⟨w.heap.size, 1, none⟩ = some (.int .i64 0) := (cell_of_row w3 _ 1 _ _ (0, 0) k3).trans (by rfl); have x2 : w3.frozen? ⟨w.heap.size, 1, none⟩ = false := frozen_of_row w3 _ _ _ _ k3
       have hB13 : Below w.heap.size w w3 := bt (bt hB hB2) hB3
       have hB14 : Below w.heap.size w (w3.setCell ⟨w.heap.size, 1, none⟩ (.int .i64 half)) := hB13.setCell (Nat.le_refl _) _
       have k4 : KnownAt (w3.setCell ⟨w.heap.size, 1, none⟩ (.int .i64 half)) w.heap.size d half := heap_setCell_same w3 w.heap.size 1 _ _ (.int .i64 half) k3
       have HK4 : Hid (KnownAt (w3.setCell ⟨w.heap.size, 1, none⟩ (.int .i64 half)) w.heap.size d half ∧ Below w.heap.size w (w3.setCell ⟨w.heap.size, 1, none⟩ (.int .i64 half))) := ⟨k4, hB14⟩
       clear k4 hB14 k3)
    | (go_at_call 152; refine (load_any w.heap.size d n half hv sv lv D t _ HK4.out.1 (HD.out.below HK4.out.2) HL.out h1 h2).mono ?_; rintro e w4 ⟨rfl, hB4⟩)
    | (go_at_call 151; refine (split_any t w4 (HM.out.below (bt HK4.out.2 hB4)) (by omega) hn).mono ?_; rintro e w5 ⟨⟨a5, n5, c5, rfl, h5⟩, hB5⟩; have H5 : Hid _ := h5; clear h5))
  go_ret2
  have hB24 := bt HK4.out.2 hB4
  exact ⟨⟨_, _, _, rfl, own_base H5.out hB24.size⟩, KnownAt.below (KnownAt.below HK4.out.1 hB4) hB5, bt hB24 hB5⟩
end Go.Proofs.YtgnfknjopafngaaGreatDoor
namespace Go.Proofs.YtgnfknjopafngaaGreatDoor
open Go.RowKit Go.Maps
theorem mem_le_sum {l : List Nat} {a : Nat} (h : a ∈ l) : a ≤ l.sum := by
  induction l with
  | nil => cases h
  | cons b l ih =>
    rcases List.mem_cons.1 h with rfl | h
    · simp
    · have := ih h
      simp
      omega
theorem texts_short {l : List M.Pk} (ha : M.Apart l) {t : List UInt8} (h : t ∈ M.textsS l) : t.length ≤ M.sizeS l := by
  rw [← M.texts_size ha]
  exact mem_le_sum (List.mem_map.2 ⟨t, h, rfl⟩)
set_option maxRecDepth 100000 in
set_option maxHeartbeats 4000000 in
theorem pFound_any (B : Nat) (v : Value) (l : List M.Pk) (w : World) (hR : Ready w) (hb : ∀ p ∈ l, M.Back p) (ha : M.Apart l) (hv : w.ownsRow B 9 1 v (M.textsS l).length ((M.textsS l).map strV)) (hs : M.sizeS l ≤ 8192) (hn : l.length ≤ 1000) :
    Calls Tryz.prog 115 #[v] w fun e w' => ∃ b, e = .returned (.map (some b)) ∧ SetIn w' b l ∧ Below w.heap.size w w' := by
  have hmm := @run_makeMap Tryz.prog
  obtain ⟨av, cv, ev⟩ := own_form hv
  subst ev
  generalize hA : w.alloc (.map #[] 0) = A
  have hB : Below w.heap.size w A := by rw [← hA]; exact (Below.refl _ w).alloc (Nat.le_refl _) _
  have hS : SetIn A w.heap.size [] := ⟨fun _ => .int .i64 0, by rw [← hA]; exact StrMap.made w, fun p hp => by cases hp⟩
  have hR2 := hR.below hB
  have cA := addAll_any w.heap.size [] _ _ A hR2.2 hR2.1 hS (strs_own (own_below hv hB)).txts (by rw [List.length_map, M.texts_len]; omega) (fun t ht => by
    obtain ⟨q, hq, rfl⟩ := List.mem_map.1 ht
    have := texts_short ha hq
    show q.toArray.size ≤ 8192
    simp
    omega)
  obtain ⟨m, m1, m2, m3⟩ := M.found_texts hb ha
  have e0 : addedS [] (((M.textsS l).map fun t => (⟨t.toArray⟩ : ByteArray)).map fun t => t.data.toList) = .inr m := by
    rw [List.map_map, show ((fun t : ByteArray => t.data.toList) ∘ fun t => (⟨t.toArray⟩ : ByteArray)) = id from rfl, List.map_id]
    unfold addedS
    rw [m1]
    simp only
    rw [m3]
  rw [e0] at cA
  clear hS hR hR2 e0 m1 m3 hv
  go_enter Tryz.func115, Tryz.ntmps115
  go_wp2_with (go_at_call 153; refine cA.mono ?_; rintro e w2 ⟨hB2, b, rfl, hS2⟩)
  go_ret
  exact ⟨b, rfl, hS2.perm m2, bt hB hB2⟩
set_option maxRecDepth 100000 in
set_option maxHeartbeats 4000000 in
theorem pOpen_any (d n half : Nat) (hv sv lv : Value) (D : M.Dk) (l : List M.Pk) (w : World) (hR : Ready w) (h : DiskIs w d hv sv lv D) (hl : M.Lies D.seen n half (M.packed l)) (h1 : 16 ≤ n) (h2 : n ≤ 256) (hb : ∀ p ∈ l, M.Back p) (ha : M.Apart l) (hs : M.sizeS l ≤ 8192) (hn : l.length ≤ 1000) :
    Calls Tryz.prog 72 #[.iface 84 (.pointer (some ⟨d, 0, none⟩))] w fun e w' => ∃ s k b, e = .returned (.tuple #[.pointer (some ⟨s, 0, none⟩), .nilIface]) ∧ StoreAt w' s k b ∧ KnownAt w' k d half ∧ SetIn w' b l ∧ w.heap.size ≤ s ∧ w.heap.size ≤ k ∧ Below w.heap.size w w' := by
  have hsp := splitT_packed hb ha
  have cO := dOpen_any d n half hv sv lv D _ w hR.2 h hl h1 h2 (by rw [hsp, M.texts_len]; omega)
  rw [hsp] at cO
  have HR : Hid (Ready w) := hR
  clear h hR hl hsp
  go_enter Tryz.func72, Tryz.ntmps72
  go_wp2_with (go_at_call 114; refine cO.mono ?_; rintro e w1 ⟨⟨a1, m1, c1, rfl, hv1⟩, hk, hB1⟩; have HV : Hid _ := hv1; have HK : Hid (KnownAt w1 w.heap.size d half) := hk; clear hk hv1)
  have cF := pFound_any _ _ l w1 (HR.out.below hB1) hb ha HV.out hs hn
  refine cF.mono ?_
  rintro e w2 ⟨b, rfl, hS, hB2⟩
  have HS : Hid (SetIn w2 b l) := hS
  clear hS cF cO
  go_wp2
  go_ret2
  have hk2 : w.heap.size < w1.heap.size := (Array.getElem?_eq_some_iff.1 HK.out).1
  have hB3 : Below w2.heap.size w2 (w2.alloc (.cells #[.pointer (some ⟨w.heap.size, 0, none⟩), .map (some b)] 140)) := (Below.refl _ w2).alloc (Nat.le_refl _) _
  exact ⟨w2.heap.size, w.heap.size, b, rfl, heap_alloc_new w2 _, (hB3.block _ (Nat.lt_of_lt_of_le hk2 hB2.size)).trans ((hB2.block _ hk2).trans HK.out), HS.out.below hB3, Nat.le_trans hB1.size hB2.size, Nat.le_refl _, bt (bt hB1 hB2) hB3⟩
end Go.Proofs.YtgnfknjopafngaaGreatDoor
namespace Go.Proofs.YtgnfknjopafngaaGreatDoor
open Go.RowKit Go.Maps Go.Shelf
attribute [local go_sem] Oper.semAt_some
def packS : ByteArray := ⟨#[112, 97, 99, 107, 97, 103, 101, 32]⟩
theorem ba_ext {a b : ByteArray} (h : a.data.toList = b.data.toList) : a = b := bytes_same h
theorem textV_take {all : List M.Pk} (ha : M.Apart all) {k : Nat} (hk : k < all.length) : ((M.textsS all).map strV).take (k + 1) = ((M.textsS all).map strV).take k ++ [.string (txAt all k)] := by
  obtain ⟨p, hp, e1, _, e2⟩ := at_names ha hk
  have hl : k < (M.textsS all).length := by rw [M.texts_len]; exact hk
  have e3 : (M.textsS all)[k] = M.printS p := by
    have : (M.textsS all)[k]? = some (M.printS p) := by unfold M.textsS; rw [List.getElem?_map, e1, Option.map_some, M.textOf_mem ha hp]
    rw [List.getElem?_eq_getElem hl] at this
    exact Option.some.inj this
  rw [← List.map_take, ← List.map_take, List.take_succ_eq_append_getElem hl, List.map_append, e3, e2]
  rfl
theorem text_parts {l : List M.Pk} (ha : M.Apart l) {k : Nat} (hk : k < l.length) :
    8 + (nmAt l k).size < (txAt l k).size ∧ (txAt l k).extract 0 8 = packS ∧ (txAt l k).extract 8 (8 + (nmAt l k).size) = nmAt l k ∧ (txAt l k).data[8 + (nmAt l k).size]? = some 32 := by
  obtain ⟨p, hp, _, e1, e2⟩ := at_names ha hk
  rw [e1, e2]
  have e3 : M.printS p = [112, 97, 99, 107, 97, 103, 101, 32] ++ (p.name ++ 32 :: (p.ver ++ M.needsText p.needs ++ M.barsText p.bars ++ p.files.flatMap M.fileText)) := by unfold M.printS; simp
  generalize p.ver ++ M.needsText p.needs ++ M.barsText p.bars ++ p.files.flatMap M.fileText = r at e3
  rw [e3]
  have hs : (ByteArray.mk p.name.toArray).size = p.name.length := by rw [← len_data]
  rw [hs]
  refine ⟨?_, ?_, ?_, ?_⟩
  · rw [← len_data]
    simp
    omega
  · apply ba_ext
    simp [packS]
  · apply ba_ext
    simp
  · show (List.toArray _)[_]? = _
    rw [List.getElem?_toArray, List.getElem?_append_right (by simp), List.getElem?_append_right (by simp)]
    simp
set_option maxRecDepth 100000 in
set_option maxHeartbeats 8000000 in
theorem xPackages_any (x d s k b : Nat) (l : List M.Pk) (w : World) (hx : SessAt w x d (.pointer (some ⟨s, 0, none⟩))) (hst : StoreAt w s k b) (hl : SetIn w b l) (hn : l.length ≤ 1000000) (hs : ∀ p ∈ l, ReadP p) (hz : M.sizeS l ≤ 1000000) :
    Calls Tryz.prog 22 #[.pointer (some ⟨x, 0, none⟩)] w fun e w' => ∃ a c, e = .returned (.tuple #[.slice a l.length c, .bool true]) ∧ w'.ownsRow w.heap.size 9 1 (.slice a l.length c) l.length ((M.textsS l).map strV) ∧ Below w.heap.size w w' := by
  refine (callsIn_wide (n := 5)).1 ?_
  have cP := fun wx => (callsIn_wide (n := 4)).2 (packs_any s wx)
  have hq := packs_on (w.heap.size + 1 + 1) s k b (5 - 1) l w hst hl hn hs (by decide)
  have ha := hl.apart
  have q1 : w.cell? ⟨x, 1, none⟩ = some (.pointer (some ⟨s, 0, none⟩)) := (cell_of_row w _ 1 _ _ (0, 0) hx).trans rfl
  have hxl : x < w.heap.size := (Array.getElem?_eq_some_iff.1 hx).1
  have h5 : 1 ≤ 5 := by decide
  obtain ⟨i0, hi0, hz0, hz1, hz2⟩ := info_parts infoStr
  have HSt : Hid (StoreAt w s k b) := hst
  have HL : Hid (SetIn w b l) := hl
  have HS : Hid (∀ p ∈ l, ReadP p) := hs
  clear hst hl hs hx
  refine callsIn_of_wp_marks Tryz.func22 rfl trivial ?_ rfl
  simp only [Tryz.ntmps22, List.size_toArray, List.length_cons, List.length_nil, Nat.reduceAdd, Nat.reduceSub, Array.replicate_succ, Array.replicate_zero, List.push_toArray, List.append_toArray, List.nil_append, List.cons_append]
  gi_wp2_with (refine ⟨trivial, ?_⟩; gi_at_call 47; refine (cP _).mono ?_; rintro e w1 ⟨rfl, rfl⟩)
  obtain ⟨W1, hW1⟩ : ∃ W1, ((w.alloc (Obj.cells #[Value.slice none 0 0] 43)).alloc (Obj.cells #[Value.bool true] 4)).alloc (Obj.cells #[Value.pointer (some ⟨s, 0, none⟩)] 86) = W1 := ⟨_, rfl⟩
  have hB1 : Below w.heap.size w W1 := by rw [← hW1]; exact bt (bt ((Below.refl _ w).alloc (Nat.le_refl _) _) ((Below.refl _ _).alloc (Nat.le_refl _) _)) ((Below.refl _ _).alloc (Nat.le_refl _) _)
  have hs1 : W1.heap.size = w.heap.size + 1 + 1 + 1 := by rw [← hW1]; simp
  have b1 : Boxed W1 w.heap.size 43 (.slice none 0 0) := by rw [← hW1]; exact ((Boxed.new _ _ _).alloc _).alloc _
  have b2 : Boxed W1 (w.heap.size + 1) 4 (.bool true) := by
    rw [← hW1]
    have := (Boxed.new (w.alloc (Obj.cells #[Value.slice none 0 0] 43)) 4 (.bool true)).alloc (Obj.cells #[Value.pointer (some ⟨s, 0, none⟩)] 86)
    rwa [World.size_alloc] at this
  have b3 : Boxed W1 (w.heap.size + 1 + 1) 86 (.pointer (some ⟨s, 0, none⟩)) := by
    rw [← hW1]
    have := Boxed.new ((w.alloc (Obj.cells #[Value.slice none 0 0] 43)).alloc (Obj.cells #[Value.bool true] 4)) 86 (.pointer (some ⟨s, 0, none⟩))
    rwa [World.size_alloc, World.size_alloc] at this
  rw [hW1]
  clear hW1
  refine wpIn_range_on rfl (by decide) (gf := 76) (fr := #[]) (lb := #[.pointer (some ⟨w.heap.size + 1 + 1, 0, none⟩)]) rfl trivial (enters_of Tryz.func76 (by kernel_rfl) rfl) hq (fun W hb => (hb.cell (p := ⟨w.heap.size + 1 + 1, 0, none⟩) b3.lt).trans b3.cell) hB1 (fun _ => rfl)
    (fun k c W => ∃ a cap, Boxed W w.heap.size 43 (.slice a k cap) ∧ W.ownsRow w.heap.size 9 1 (.slice a k cap) k (((M.textsS l).map strV).take k) ∧ Boxed W (w.heap.size + 1) 4 (.bool true) ∧ Boxed W (w.heap.size + 1 + 1) 86 (.pointer (some ⟨s, 0, none⟩)) ∧ (∀ j, c j ↔ j = w.heap.size ∨ j = w.heap.size + 1 ∨ (Value.slice a k cap).ownBlock = some j) ∧ Below w.heap.size w W)
    ?ia ?ic (fun j => j = w.heap.size ∨ j = w.heap.size + 1) ?h0
    (fun k => { tmps := #[.pointer (some ⟨x, 0, none⟩), undef, .slice none 0 0, .bool false, .pointer (some ⟨w.heap.size, 0, none⟩), .pointer (some ⟨w.heap.size + 1, 0, none⟩), .func (.func 76) #[] #[.pointer (some ⟨w.heap.size + 1 + 1, 0, none⟩)], .string (nmAt l k), .string (txAt l k), undef, undef, .pointer (some ⟨x, 0, none⟩), .pointer (some ⟨x, 0, none⟩), .pointer (some ⟨x, 1, none⟩), .pointer (some ⟨s, 0, none⟩), .func (.func 76) #[] #[.pointer (some ⟨w.heap.size + 1 + 1, 0, none⟩)], .func (.func 76) #[] #[.pointer (some ⟨w.heap.size + 1 + 1, 0, none⟩)], .string (nmAt l k), .string (txAt l k), undef, undef, undef, undef, undef, undef, undef, undef, undef, undef, undef, undef, undef, undef, undef, undef, undef, undef, undef, undef, undef, undef, undef, undef, undef, undef, undef, undef, undef, undef, undef, undef, undef, undef, undef, undef, undef, undef, undef, undef], defers := [] }) ?assign ?body ?done
  case ia =>
    rintro k c W1' W2 ⟨a, cap, hbx, hrow, hbo, hbs, hc, hB⟩ hg
    refine ⟨a, cap, (hg.block _ hbx.lt (fun e => by omega)).trans hbx, hg.own hrow (fun g hg' e => e.2 ((hc g).2 (.inr (.inr hg')))), (hg.block _ hbo.lt (fun e => by omega)).trans hbo, (hg.block _ hbs.lt (fun e => by omega)).trans hbs, hc, Below.chg hB hg (fun j e => by omega) (Nat.le_refl _)⟩
  case ic =>
    rintro k c W1' j ⟨a, cap, hbx, hrow, hbo, hbs, hc, hB⟩ hj
    rcases (hc j).1 hj with rfl | rfl | e
    · exact ⟨Nat.le_refl _, hbx.lt⟩
    · exact ⟨by omega, hbo.lt⟩
    · exact hrow.lt j e
  case h0 =>
    exact ⟨none, 0, b1, World.ownsRow_nil _ _ _ _, b2, b3, fun j => ⟨fun h => h.elim .inl (fun h => .inr (.inl h)), fun h => h.elim .inl (fun h => h.elim .inr (fun e => by cases e))⟩, hB1⟩
  case assign =>
    intro lp k W K hK
    gi_wp2
    exact hK
  case body =>
    rintro lp k c W hk ⟨a, cap, hbx, hrow, hbo, hbs, hc, hB⟩
    have hc0 := hbx.cell
    have hc1 := hbo.cell
    have hf1 := hbo.frozen
    have hcells := textV_take ha hk
    obtain ⟨t1, t2, t3, t4⟩ := text_parts ha hk
    unfold packS at t2
    have hsz := hB.size
    have HC : Hid (∀ j, c j ↔ j = w.heap.size ∨ j = w.heap.size + 1 ∨ (Value.slice a k cap).ownBlock = some j) := hc
    have HCe : Hid (((M.textsS l).map strV).take (k + 1) = ((M.textsS l).map strV).take k ++ [.string (txAt l k)]) := hcells
    have hT8 : (txAt l k).size ≤ 1000000 := by
      have hkl : k < (M.textsS l).length := by rw [M.texts_len]; exact hk
      have := texts_short ha (List.getElem_mem hkl)
      have e : (txAt l k).size = (M.textsS l)[k].length := by
        unfold txAt
        rw [List.getElem?_eq_getElem hkl, ← len_data]
        rfl
      omega
    have hN8 : (nmAt l k).size ≤ 1000000 := by omega
    generalize hTx : txAt l k = T at *
    generalize hNx : nmAt l k = N at *
    have hbW : Boxed (W.setCell ⟨w.heap.size + 1, 0, none⟩ (.bool true)) w.heap.size 43 (.slice a k cap) := hbx.kept (grownBy_setCell' _ _ _) (fun e => by have := Option.some.inj e; omega)
    have hrW : (W.setCell ⟨w.heap.size + 1, 0, none⟩ (.bool true)).ownsRow w.heap.size 9 1 (.slice a k cap) k (((M.textsS l).map strV).take k) := hrow.kept (grownBy_setCell' _ _ _) (.inr (hbo.not_row (by decide) hrow).symm)
    have hsW : Boxed (W.setCell ⟨w.heap.size + 1, 0, none⟩ (.bool true)) (w.heap.size + 1 + 1) 86 (.pointer (some ⟨s, 0, none⟩)) := hbs.kept (grownBy_setCell' _ _ _) (fun e => by have := Option.some.inj e; omega)
    have hoW : Boxed (W.setCell ⟨w.heap.size + 1, 0, none⟩ (.bool true)) (w.heap.size + 1) 4 (.bool true) := hbo.set _
    have hcW := hbW.cell
    have hzW : (W.setCell ⟨w.heap.size + 1, 0, none⟩ (.bool true)).heap.size = W.heap.size := by simp
    have HCs : Hid (Chg c W (W.setCell ⟨w.heap.size + 1, 0, none⟩ (.bool true))) := Chg.grown (grownBy_setCell' _ _ _) (fun j e _ => (HC.out j).2 (.inr (.inl (Option.some.inj e).symm)))
    have HBW : Hid (Below w.heap.size w (W.setCell ⟨w.heap.size + 1, 0, none⟩ (.bool true))) := hB.setCell (p := ⟨w.heap.size + 1, 0, none⟩) (by show w.heap.size ≤ w.heap.size + 1; omega) _
    have t5 : ((T[8 + N.size]'t1).toNat : Int) = 32 := by
      have h9 : 8 + N.size < T.data.size := t1
      rw [Array.getElem?_eq_getElem h9] at t4
      show ((T.data[8 + N.size]).toNat : Int) = 32
      rw [Option.some.inj t4]
      rfl
    clear hc hcells hq t4
    gi_wp2_with (gi_at_builtin; go_must (refine wpListIn_append_own_at _ rfl _ _ 43 rfl w.heap.size 9 i0 (.string ⟨#[]⟩) 1 16 Tryz.underlying43 hi0 hz0 hz1 hz2 rfl (by decide) _ _ _ rfl (hrW.alloc _) ⟨W.heap.size, 0, none⟩ 1 1 [.string T] rfl rfl (by have := one_new (W.setCell ⟨w.heap.size + 1, 0, none⟩ (.bool true)) (.string T) 9; rwa [hzW] at this) (by intro u hu; simp at hu; subst hu; rfl) (by unfold maxLen; omega) (by omega) (by simp; omega) ?_); intro v' w1 hown' hgrow _ hat; obtain ⟨g', cap', rfl⟩ := ownsRow_succ hown'; obtain ⟨hv1, hv2, hr2, hk2, hb2⟩ := hbW.appended (by decide) hrW (by rw [hzW]; exact hsz) (Nat.le_refl _) hown' hgrow; have hc9 := hv1.cell; have hf9 := hv1.frozen)
    have hG2 := setCell_grown w1 w.heap.size 0 (.slice (some ⟨g', 0, none⟩) (k + 1) cap')
    have hne1 : some (w.heap.size + 1) ≠ (Value.slice a k cap).ownBlock := hbo.not_row (by decide) hrow
    have hne2 : some (w.heap.size + 1 + 1) ≠ (Value.slice a k cap).ownBlock := hbs.not_row (by decide) hrow
    refine ⟨fun j => j = w.heap.size ∨ j = w.heap.size + 1 ∨ (Value.slice (some ⟨g', 0, none⟩) (k + 1) cap').ownBlock = some j, ⟨_, _, hv2, by rw [HCe.out]; exact hr2, ?_, ?_, fun j => Iff.rfl, HBW.out.trans hb2⟩, ?_, ?_⟩
    · exact ((hoW.alloc _).kept hgrow hne1).kept hG2 (fun e => by have := Option.some.inj e; omega)
    · exact ((hsW.alloc _).kept hgrow hne2).kept hG2 (fun e => by have := Option.some.inj e; omega)
    · exact ((HCs.out.then (Chg.below (F := fun _ => False) ((Below.refl _ _).alloc (Nat.le_refl _) _)) (fun _ _ e => e.elim)).then (Chg.grown (F := fun j => (Value.slice a k cap).ownBlock = some j) hgrow (fun j e _ => e)) (fun j _ e => (HC.out j).2 (.inr (.inr e)))).then (Chg.grown (F := fun j => j = w.heap.size) hG2 (fun j e _ => (Option.some.inj e).symm)) (fun j _ e => (HC.out j).2 (.inl e))
    · rintro j (rfl | rfl | e)
      · exact .inl ((HC.out _).2 (.inl rfl))
      · exact .inl ((HC.out _).2 (.inr (.inl rfl)))
      · rcases hat with h | h
        · exact .inl ((HC.out j).2 (.inr (.inr (h.symm.trans e))))
        · rw [h] at e
          simp at e
          omega
  case done =>
    rintro D c W hD hcD ⟨a, cap, hbx, hrow, hbo, hbs, hc, hB⟩ hK
    have hDl : D < W.heap.size := (Array.getElem?_eq_some_iff.1 hK).1
    have hsz := hB.size
    rw [List.take_of_length_le (by rw [List.length_map, M.texts_len]; exact Nat.le_refl _)] at hrow
    obtain ⟨W2, hW2⟩ : ∃ W2, (W.alloc (Obj.cells #[Value.int .i64 0] 3)).alloc (Obj.cells #[Value.bool false] 4) = W2 := ⟨_, rfl⟩
    have hB2 : Below W.heap.size W W2 := by rw [← hW2]; exact bt ((Below.refl _ W).alloc (Nat.le_refl _) _) ((Below.refl _ _).alloc (Nat.le_refl _) _)
    have hs2 : W2.heap.size = W.heap.size + 1 + 1 := by rw [← hW2]; simp
    have k1 : Boxed W2 W.heap.size 3 (.int .i64 (0 : Nat)) := by rw [← hW2]; exact (Boxed.new _ _ _).alloc _
    have k2 : Boxed W2 (W.heap.size + 1) 4 (.bool false) := by
      rw [← hW2]
      have := Boxed.new (W.alloc (Obj.cells #[Value.int .i64 0] 3)) 4 (.bool false)
      rwa [World.size_alloc] at this
    have hr2 : W2.ownsRow w.heap.size 9 1 (.slice a l.length cap) l.length ((M.textsS l).map strV) := own_below hrow hB2
    have hbl2 : Boxed W2 w.heap.size 43 (.slice a l.length cap) := (hB2.block _ hbx.lt).trans hbx
    have hbo2 : Boxed W2 (w.heap.size + 1) 4 (.bool true) := (hB2.block _ hbo.lt).trans hbo
    obtain ⟨g, hg⟩ : ∃ g, 0 < l.length → a = some ⟨g, 0, none⟩ ∧ g < W.heap.size ∧ g ≠ w.heap.size + 1 := by
      rcases hrow.2 with ⟨_, h0⟩ | ⟨g, cap', cur, e, _, hgb, _⟩
      · exact ⟨0, fun h => by omega⟩
      · refine ⟨g, fun _ => ?_⟩
        cases e
        refine ⟨rfl, (Array.getElem?_eq_some_iff.1 hgb).1, fun e => ?_⟩
        have := hbo.not_row (by decide) hrow
        exact this (by rw [← e]; rfl)
    have cQ := packs_ask (w.heap.size + 1 + 1) s k b (w.heap.size + 1) (W.heap.size + 1) W.heap.size w.heap.size g cap (.slice a l.length cap) l w W2 HSt.out ((hB2.cell (p := ⟨w.heap.size + 1 + 1, 0, none⟩) hbs.lt).trans hbs.cell) HL.out (hB.trans (hB2.mono hsz)) hn HS.out (by have := hbo.lt; omega) (by have := hbo.lt; omega) (by omega) (by omega) (by have := hbx.lt; omega) (by have := hbx.lt; omega) ⟨by omega, hsz, by omega⟩ ⟨hbo2, k2, k1, hbl2⟩ (fun h => by rw [(hg h).1]) (fun h => ⟨(hg h).2.2, by have := (hg h).2.1; omega, by have := (hg h).2.1; omega⟩) (fun j hj => by
      obtain ⟨g2, e2, _, _, hcl⟩ := ((RowIn.own hr2).wide (Nat.zero_le _) (Nat.le_refl _)).cellAt (by omega)
      rw [(hg (by omega)).1] at e2
      cases e2
      have hjl : j < (M.textsS l).length := by rw [M.texts_len]; exact hj
      refine hcl j _ ?_
      unfold txAt
      rw [List.getElem?_map, List.getElem?_eq_getElem hjl]
      rfl)
    have HJ : Hid (∀ j, (Value.slice a l.length cap).ownBlock = some j → j < W.heap.size ∧ j ≠ w.heap.size + 1) := fun j hj => ⟨(hrow.lt j hj).2, fun e => (hbo.not_row (by decide) hrow) (by rw [← e]; exact hj.symm)⟩
    have cQ2 := (callsIn_wide (n := 4)).2 cQ
    have HK2 : Hid (W2.heap[D]? = some (.deferred (some []))) := (hB2.block _ hDl).trans hK
    have HR2 : Hid (W2.ownsRow w.heap.size 9 1 (.slice a l.length cap) l.length ((M.textsS l).map strV)) := hr2
    have HBL : Hid (Boxed W2 w.heap.size 43 (.slice a l.length cap)) := hbl2
    have HB2 : Hid (Below w.heap.size w W2) := hB.trans (hB2.mono hsz)
    have hblt := hbx.lt
    have hbot := hbo.lt
    have HW2 : Hid ((W.alloc (Obj.cells #[Value.int .i64 0] 3)).alloc (Obj.cells #[Value.bool false] 4) = W2) := hW2
    clear hc hrow hr2 hbl2 hbo2 cQ hbx hbo hbs k1 k2 hW2 hq
    gi_wp2_with (first | (refine ⟨trivial, ?_⟩; gi_at_call 76; rw [HW2.out]; refine cQ2.mono ?_; rintro e w3 ⟨⟨v, rfl⟩, hbo3, hc3⟩; have q4 : w3.cell? ⟨w.heap.size, 0, none⟩ = some (.slice a l.length cap) := hc3.cell HBL.out.cell (fun e => by have e2 : w.heap.size = w.heap.size + 1 ∨ w.heap.size = W.heap.size ∨ w.heap.size = W.heap.size + 1 := e; omega); have q5 := hbo3.cell))
    gi_region
    all_goals
      gi_wp2
      have hD3 : w3.drew.heap[D]? = some (.deferred (some [])) := (hc3.block D (by omega) (fun e => by omega)).trans HK2.out
      refine ⟨by simp, .inl ⟨_, _, rfl, run_takeDeferred hD3, ?_⟩⟩
      refine ⟨_, results_tmp2 rfl _ _ _, a, cap, rfl, ?_, ?_⟩
      · have h3 := hc3.own HR2.out (fun j hj e => by have := HJ.out j hj; omega)
        exact ownsRow_putObj (own_below h3 (below_same w3 1)) (.deferred none) hD3 rfl
      · exact ((Below.chg HB2.out hc3 (fun j e => by omega) (Nat.le_refl _)).drew).trans (belowK_b (w := w) (Nat.le_refl _) w3.drew D _ _ (by omega) hD3 rfl rfl)
end Go.Proofs.YtgnfknjopafngaaGreatDoor
namespace Go.Proofs.YtgnfknjopafngaaGreatDoor
open Go.RowKit Go.Maps
def NoText (F : Nat → Prop) (w : World) : Prop := ∀ k, F k → (∃ c t fz, w.heap[k]? = some (.cells c t fz) ∧ t ≠ 30) ∧ (StrBlk w k ∨ ∀ s, w.cell? ⟨k, 0, none⟩ ≠ some (.string s)) ∧ (∀ a n c, w.cell? ⟨k, 0, none⟩ = some (.slice a n c) → 16 ≤ n)
theorem RowIn.chg {F : Nat → Prop} {w w' : World} {lo hi n : Nat} {v : Value} {xs : List Value} (h : RowIn w lo hi v n xs) (hc : Chg F w w') (h0 : xs = [] → n = 0) (hF : ∀ g, (∀ u, xs[0]? = some u → w.cell? ⟨g, 0, none⟩ = some u) → (StrBlk w g → xs.length = n) → xs ≠ [] → ¬ F g) (hh : hi ≤ w.heap.size) : RowIn w' lo hi v n xs := by
  obtain h | ⟨g, cap, h1, h2, h3, h4, h5⟩ := h
  · exact .inl h
  · refine .inr ⟨g, cap, h1, h2, h3, ⟨h4.1, fun ⟨c, f, e⟩ => ?_⟩, fun j u hu => ?_⟩
    · by_cases hne : xs = []
      · rw [h0 hne, hne, List.length_nil]
      · exact h4.2 ⟨c, f, (hc.block g (by omega) (hF g (fun u hu => h5 0 u hu) h4.2 hne)).symm.trans e⟩
    · have hne : xs ≠ [] := fun e => by rw [e] at hu; cases hu
      exact hc.cell (h5 j u hu) (hF g (fun u hu => h5 0 u hu) h4.2 hne)
theorem RowIn.chs {F : Nat → Prop} {w w' : World} {lo hi : Nat} {v : Value} {l : List M.Ch} (h : RowIn w lo hi v l.length (chsCells l)) (hc : Chg F w w') (hF : NoText F w) (hh : hi ≤ w.heap.size) : RowIn w' lo hi v l.length (chsCells l) := by
  refine h.chg hc (fun e => ?_) (fun g hg ht hne f => ?_) hh
  · cases l with
    | nil => rfl
    | cons c l => cases e
  · cases l with
    | nil => exact hne rfl
    | cons c l =>
      rcases (hF g f).2.1 with k | k
      · have := ht k
        rw [chsCells_len] at this
        simp at this
        omega
      · exact k _ (hg (strV c.name) rfl)
theorem RowIn.fls {F : Nat → Prop} {w w' : World} {lo hi : Nat} {v : Value} {l : List M.Fl} (h : RowIn w lo hi v l.length (flsCells l)) (hc : Chg F w w') (hF : NoText F w) (hh : hi ≤ w.heap.size) : RowIn w' lo hi v l.length (flsCells l) := by
  refine h.chg hc (fun e => ?_) (fun g hg ht hne f => ?_) hh
  · cases l with
    | nil => rfl
    | cons c l => cases e
  · cases l with
    | nil => exact hne rfl
    | cons c l =>
      rcases (hF g f).2.1 with k | k
      · have := ht k
        rw [flsCells_len] at this
        simp at this
        omega
      · exact k _ (hg (strV c.path) rfl)
theorem NeedsIn.chg {F : Nat → Prop} {w w' : World} {lo hi : Nat} {v : Value} {l : List (List M.Ch)} (h : NeedsIn w lo hi v l) (hc : Chg F w w') (hF : NoText F w) (hh : hi ≤ w.heap.size) (hl : ∀ x ∈ l, x.length ≤ 15) : NeedsIn w' lo hi v l := by
  obtain ⟨vs, h1, h2, h3⟩ := h
  refine ⟨vs, h1.chg hc (fun e => by rw [e] at h2; exact h2.symm) (fun g hg _ hne f => ?_) hh, h2, fun i x hx => by obtain ⟨u, a, b⟩ := h3 i x hx; exact ⟨u, a, b.chs hc hF hh⟩⟩
  cases l with
  | nil => exact hne (List.length_eq_zero_iff.1 h2)
  | cons x l =>
    obtain ⟨u, a, b⟩ := h3 0 x rfl
    obtain ⟨p, c, rfl⟩ := b.form
    have := (hF g f).2.2 _ _ _ (hg _ a)
    have := hl x (by simp)
    omega
theorem PkVal.chg {F : Nat → Prop} {w w' : World} {p : M.Pk} {v : Value} (h : PkVal w p v) (hc : Chg F w w') (hF : NoText F w) (hl : ∀ x ∈ p.needs, x.length ≤ 15) : PkVal w' p v := by
  obtain ⟨nv, bv, fv, h1, h2, h3, h4⟩ := h
  exact ⟨nv, bv, fv, h1, (h2.chg hc hF (Nat.le_refl _) hl).wide (Nat.le_refl _) hc.size, (h3.chs hc hF (Nat.le_refl _)).wide (Nat.le_refl _) hc.size, (h4.fls hc hF (Nat.le_refl _)).wide (Nat.le_refl _) hc.size⟩
theorem PkTy.chg {F : Nat → Prop} {w w' : World} {v : Value} {l : List M.Pk} (h : PkTy w v l) (hc : Chg F w w') (hF : NoText F w) : PkTy w' v l := fun h0 g o n c e => by
  obtain ⟨cur, fz, h1⟩ := h h0 g o n c e
  refine ⟨cur, fz, (hc.block g (Array.getElem?_eq_some_iff.1 h1).1 (fun f => ?_)).trans h1⟩
  obtain ⟨c2, t, f2, e2, hn⟩ := (hF g f).1
  rw [h1] at e2
  cases e2
  exact hn rfl
theorem PksIn.chg {F : Nat → Prop} {w w' : World} {v : Value} {l : List M.Pk} (h : PksIn w v l) (ht : PkTy w v l) (hc : Chg F w w') (hF : NoText F w) (hl : ∀ p ∈ l, ∀ x ∈ p.needs, x.length ≤ 15) : PksIn w' v l := by
  rcases h with h | ⟨g, off, cap, rfl, h2, h3, h4⟩
  · exact .inl h
  · by_cases h0 : l = []
    · subst h0
      exact .inl ⟨rfl, _, _, rfl⟩
    · obtain ⟨cur, fz, hk⟩ := ht h0 g off _ _ rfl
      have hng : ¬ F g := fun f => by
        obtain ⟨c2, t, f2, e2, hn⟩ := (hF g f).1
        rw [hk] at e2
        cases e2
        exact hn rfl
      refine .inr ⟨g, off, cap, rfl, h2, Nat.lt_of_lt_of_le h3 hc.size, fun i p hp => ?_⟩
      obtain ⟨nv, bv, fv, c0, c1, c2, c3, c4, c5, c6, c7⟩ := h4 i p hp
      have hlp := hl p (List.mem_of_getElem? hp)
      exact ⟨nv, bv, fv, hc.cell c0 hng, hc.cell c1 hng, hc.cell c2 hng, hc.cell c3 hng, hc.cell c4 hng, (c5.chg hc hF (Nat.le_refl _) hlp).wide (Nat.le_refl _) hc.size, (c6.chs hc hF (Nat.le_refl _)).wide (Nat.le_refl _) hc.size, (c7.fls hc hF (Nat.le_refl _)).wide (Nat.le_refl _) hc.size⟩
theorem SetIn.chg {F : Nat → Prop} {w w' : World} {b : Nat} {l : List M.Pk} (h : SetIn w b l) (hc : Chg F w w') (hF : NoText F w) (hl : ∀ p ∈ l, ∀ x ∈ p.needs, x.length ≤ 15) : SetIn w' b l := by
  obtain ⟨f, h1, h2⟩ := h
  refine ⟨f, h1.block (hc.block b h1.lt (fun k => ?_)), fun p hp => (h2 p hp).chg hc hF (hl p hp)⟩
  obtain ⟨c, t, fz, e, _⟩ := (hF b k).1
  obtain ⟨n, es, ⟨xs, clock, h0, _⟩, _⟩ := h1
  rw [h0] at e
  cases e
theorem NoText.or {F G : Nat → Prop} {w : World} (h : NoText F w) (k : NoText G w) : NoText (fun i => F i ∨ G i) w := fun i hi => hi.elim (h i) (k i)
theorem NoText.one {w : World} {k : Nat} {c : Array Value} {t : TypeId} {fz : Nat × Nat} (h : w.heap[k]? = some (.cells c t fz)) (h1 : ∀ s, c[0]? ≠ some (.string s)) (h2 : ∀ a n p, c[0]? = some (.slice a n p) → 16 ≤ n) (h3 : t ≠ 30 := by decide) : NoText (fun i => i = k) w := by
  rintro i rfl
  have e : w.cell? ⟨i, 0, none⟩ = c[0]? := cell_of_row w _ 0 _ _ _ h
  exact ⟨⟨c, t, fz, h, h3⟩, .inr fun s => by rw [e]; exact h1 s, fun a n p => by rw [e]; exact h2 a n p⟩
theorem NoText.strs {w : World} {base n : Nat} {v : Value} {xs : List Value} (h : w.ownsRow base 9 1 v n xs) (hx : ∀ u ∈ xs, ∃ s, u = .string s) (hn : 0 < n) : NoText (fun k => v.ownBlock = some k) w := by
  intro k hk
  obtain ⟨hl, ⟨rfl, _⟩ | ⟨g, cap, cur, rfl, _, hg, hnc, _, hcs, ht⟩⟩ := h
  · cases hk
  · have e : g = k := Option.some.inj hk
    subst e
    refine ⟨⟨_, _, _, hg, by decide⟩, .inl ⟨_, _, hg⟩, fun a m c e => ?_⟩
    rw [show w.cell? ⟨g, 0, none⟩ = cur[0]? from cell_of_row w _ 0 _ _ _ hg] at e
    have h0 : cur.toList[0]? = xs[0]? := by rw [← ht, List.getElem?_take_of_lt (by omega)]
    rw [Array.getElem?_toList] at h0
    rw [h0] at e
    obtain ⟨s, e2⟩ := hx _ (List.mem_of_getElem? e)
    cases e2
theorem Secs.noText {w : World} {base : Nat} {v : Value} {l : List (List UInt8)} (h : Secs w base v l) (hl : 0 < l.length) : NoText (fun k => v.ownBlock = some k) w := by
  intro k hk
  obtain ⟨cur, hc⟩ := h.type k hk
  obtain ⟨b, c, g, cg, rfl, _, _, _, h5, _⟩ := h.at hl
  have e : b = k := Option.some.inj hk
  subst e
  refine ⟨⟨_, _, _, hc, by decide⟩, .inr fun s => (by rw [h5]; intro e; cases e), fun a n p e => ?_⟩
  rw [h5] at e
  cases e
  omega
theorem LateIn.noText {w : World} {base : Nat} {v : Value} {l : List (Nat × List UInt8)} (h : LateIn w base v l) : NoText (fun k => v.ownBlock = some k) w := by
  intro k hk
  obtain ⟨cur, hc⟩ := h.type k hk
  have hl : 0 < l.length := by
    cases l with
    | nil => have := h.1 rfl; rw [this] at hk; cases hk
    | cons a l => simp
  obtain ⟨b, c, g, cg, rfl, _, _, _, h5, _⟩ := late_at h hl
  have e : b = k := Option.some.inj hk
  subst e
  rw [Nat.zero_mul] at h5
  refine ⟨⟨_, _, _, hc, by decide⟩, .inr fun s => (by rw [h5]; intro e; cases e), fun a n p e => ?_⟩
  rw [h5] at e
  cases e
theorem DiskIs.noText {w : World} {d : Nat} {hv sv lv : Value} {D : M.Dk} (h : DiskIs w d hv sv lv D) (h1 : 16 ≤ D.held.length) (h2 : 16 ≤ D.seen.length) : NoText (dFoot d hv sv lv) w := by
  obtain ⟨b, c, g, cg, ev, _⟩ := h.held.at (n := 0) (by omega)
  have hd : NoText (fun i => i = d) w := NoText.one h.blk (fun s e => by subst ev; cases e) (fun a n p e => by subst ev; cases e; exact h1)
  rintro k (hk | hk | hk | hk)
  · exact hd k hk
  · exact h.held.noText (by omega) k hk
  · exact h.seen.noText (by omega) k hk
  · exact h.late.noText k hk
end Go.Proofs.YtgnfknjopafngaaGreatDoor
