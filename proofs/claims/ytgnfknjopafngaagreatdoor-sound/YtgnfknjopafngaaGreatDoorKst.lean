import Derived.Shelf.SlIter.Nil
import Derived.Shelf.SortM.Plain
import Derived.Shelf.SortM.SortNone
import Derived.Test.YtgnfknjopafngaaGreatDoorProg
import Derived.Test.YtgnfknjopafngaaGreatDoorKsm
import Derived.Test.YtgnfknjopafngaaGreatDoorKss
namespace Go.Proofs
open Go.Shelf
def Tryz.keys161_ren : Go.Shelf.Ren := ⟨fun | 7 => 161 | 10 => 200 | n => n, fun | 23 => 135 | 26 => 9 | 3 => 108 | 28 => 253 | 0 => 0 | 27 => 252 | 33 => 36 | 4 => 4 | n => n, fun | n => n⟩
theorem Tryz.keys161 : Go.Proofs.SlLaysZ.n7 Tryz.prog Tryz.keys161_ren := {
  mixed := by kernel_rfl
  f7 := ⟨Tryz.f161.name, by decide, Tryz.func161.trans (congrArg some (by kernel_rfl))⟩
  f10 := ⟨Tryz.f200.name, by decide, Tryz.func200.trans (congrArg some (by kernel_rfl))⟩
  t0 := Tryz.underlying0
  a0 := Tryz.isAgg0
  z0 := Tryz.sizeOf0
  v0 := Tryz.zeroValue0
  t4 := Tryz.underlying4
  a4 := Tryz.isAgg4
  z4 := Tryz.sizeOf4
  v4 := Tryz.zeroValue4
  t23 := Tryz.underlying135
  a23 := Tryz.isAgg135
  z23 := Tryz.sizeOf135
  v23 := Tryz.zeroValue135
  t26 := Tryz.underlying9
  a26 := Tryz.isAgg9
  z26 := Tryz.sizeOf9
  v26 := Tryz.zeroValue9
  t27 := Tryz.underlying252
  a27 := Tryz.isAgg252
  z27 := Tryz.sizeOf252
  v27 := Tryz.zeroValue252
  t28 := Tryz.underlying253
  a28 := Tryz.isAgg253
  z28 := Tryz.sizeOf253
  v28 := Tryz.zeroValue253
  t33 := Tryz.underlying36
  a33 := Tryz.isAgg36
  z33 := Tryz.sizeOf36
  v33 := Tryz.zeroValue36 }
def Tryz.sorted160_ren : Go.Shelf.Ren := ⟨fun | 6 => 160 | 8 => 198 | 9 => 199 | 11 => 243 | 13 => 179 | 12 => 244 | 23 => 229 | 24 => 230 | 14 => 269 | 15 => 270 | 16 => 271 | 17 => 272 | 18 => 273 | 19 => 274 | 20 => 239 | 21 => 275 | 22 => 276 | 25 => 282 | 26 => 257 | 27 => 258 | 28 => 283 | 29 => 284 | 30 => 267 | 31 => 288 | n => n, fun | 26 => 9 | 28 => 253 | 24 => 43 | 0 => 0 | 3 => 3 | 37 => 267 | 48 => 308 | 50 => 310 | 4 => 4 | 40 => 302 | 39 => 301 | 45 => 287 | 5 => 5 | 9 => 9 | 51 => 318 | 55 => 322 | 57 => 338 | 58 => 240 | 33 => 36 | n => n, fun | n => n⟩
theorem Tryz.sorted160 : Go.Proofs.SlLaysZ.n6 Tryz.prog Tryz.sorted160_ren := {
  mixed := by kernel_rfl
  f6 := ⟨Tryz.f160.name, by decide, Tryz.func160.trans (congrArg some (by kernel_rfl))⟩
  f8 := ⟨Tryz.f198.name, by decide, Tryz.func198.trans (congrArg some (by kernel_rfl))⟩
  f11 := ⟨Tryz.f243.name, by decide, Tryz.func243.trans (congrArg some (by kernel_rfl))⟩
  t0 := Tryz.underlying0
  a0 := Tryz.isAgg0
  z0 := Tryz.sizeOf0
  v0 := Tryz.zeroValue0
  t24 := Tryz.underlying43
  a24 := Tryz.isAgg43
  z24 := Tryz.sizeOf43
  v24 := Tryz.zeroValue43
  t26 := Tryz.underlying9
  a26 := Tryz.isAgg9
  z26 := Tryz.sizeOf9
  v26 := Tryz.zeroValue9
  t28 := Tryz.underlying253
  a28 := Tryz.isAgg253
  z28 := Tryz.sizeOf253
  v28 := Tryz.zeroValue253
  i26 := by kernel_rfl }
def Tryz.sort199_ren : Go.Shelf.Ren := ⟨fun | 6 => 199 | 8 => 179 | 9 => 244 | 19 => 229 | 20 => 230 | 21 => 269 | 22 => 270 | 23 => 271 | 24 => 272 | 25 => 273 | 26 => 274 | 27 => 239 | 28 => 275 | 29 => 276 | 36 => 282 | 31 => 257 | 32 => 258 | 37 => 283 | 38 => 284 | 39 => 267 | 41 => 288 | n => n, fun | 27 => 43 | 29 => 9 | 3 => 3 | 32 => 267 | 26 => 43 | 0 => 0 | 44 => 308 | 46 => 310 | 4 => 4 | 36 => 302 | 35 => 301 | 41 => 287 | 5 => 5 | 9 => 9 | 53 => 318 | 57 => 322 | 63 => 338 | 64 => 240 | n => n, fun | n => n⟩
theorem Tryz.sort199 : Go.Proofs.SlLaysM.n6 Tryz.prog Tryz.sort199_ren := {
  mixed := by kernel_rfl
  f6 := ⟨Tryz.f199.name, by decide, Tryz.func199.trans (congrArg some (by kernel_rfl))⟩
  f8 := Tryz.func179.trans (congrArg some (by kernel_rfl))
  f9 := ⟨Tryz.f244.name, by decide, Tryz.func244.trans (congrArg some (by kernel_rfl))⟩
  f19 := Tryz.func229.trans (congrArg some (by kernel_rfl))
  f20 := Tryz.func230.trans (congrArg some (by kernel_rfl))
  f21 := ⟨Tryz.f269.name, by decide, Tryz.func269.trans (congrArg some (by kernel_rfl))⟩
  f22 := ⟨Tryz.f270.name, by decide, Tryz.func270.trans (congrArg some (by kernel_rfl))⟩
  f23 := ⟨Tryz.f271.name, by decide, Tryz.func271.trans (congrArg some (by kernel_rfl))⟩
  f24 := ⟨Tryz.f272.name, by decide, Tryz.func272.trans (congrArg some (by kernel_rfl))⟩
  f25 := ⟨Tryz.f273.name, by decide, Tryz.func273.trans (congrArg some (by kernel_rfl))⟩
  f26 := ⟨Tryz.f274.name, by decide, Tryz.func274.trans (congrArg some (by kernel_rfl))⟩
  f27 := ⟨Tryz.f239.name, by decide, Tryz.func239.trans (congrArg some (by kernel_rfl))⟩
  f28 := ⟨Tryz.f275.name, by decide, Tryz.func275.trans (congrArg some (by kernel_rfl))⟩
  f29 := ⟨Tryz.f276.name, by decide, Tryz.func276.trans (congrArg some (by kernel_rfl))⟩
  f31 := Tryz.func257.trans (congrArg some (by kernel_rfl))
  f32 := Tryz.func258.trans (congrArg some (by kernel_rfl))
  f36 := ⟨Tryz.f282.name, by decide, Tryz.func282.trans (congrArg some (by kernel_rfl))⟩
  f37 := ⟨Tryz.f283.name, by decide, Tryz.func283.trans (congrArg some (by kernel_rfl))⟩
  f38 := ⟨Tryz.f284.name, by decide, Tryz.func284.trans (congrArg some (by kernel_rfl))⟩
  f39 := ⟨Tryz.f267.name, by decide, Tryz.func267.trans (congrArg some (by kernel_rfl))⟩
  f41 := ⟨Tryz.f288.name, by decide, Tryz.func288.trans (congrArg some (by kernel_rfl))⟩
  t0 := Tryz.underlying0
  a0 := Tryz.isAgg0
  z0 := Tryz.sizeOf0
  v0 := Tryz.zeroValue0
  t3 := Tryz.underlying3
  a3 := Tryz.isAgg3
  z3 := Tryz.sizeOf3
  v3 := Tryz.zeroValue3
  t4 := Tryz.underlying4
  a4 := Tryz.isAgg4
  z4 := Tryz.sizeOf4
  v4 := Tryz.zeroValue4
  t5 := Tryz.underlying5
  a5 := Tryz.isAgg5
  z5 := Tryz.sizeOf5
  v5 := Tryz.zeroValue5
  t9 := Tryz.underlying9
  a9 := Tryz.isAgg9
  z9 := Tryz.sizeOf9
  v9 := Tryz.zeroValue9
  t26 := Tryz.underlying43
  a26 := Tryz.isAgg43
  z26 := Tryz.sizeOf43
  v26 := Tryz.zeroValue43
  t27 := Tryz.underlying43
  a27 := Tryz.isAgg43
  z27 := Tryz.sizeOf43
  v27 := Tryz.zeroValue43
  t29 := Tryz.underlying9
  a29 := Tryz.isAgg9
  z29 := Tryz.sizeOf9
  v29 := Tryz.zeroValue9
  t32 := Tryz.underlying267
  a32 := Tryz.isAgg267
  z32 := Tryz.sizeOf267
  v32 := Tryz.zeroValue267
  t35 := Tryz.underlying301
  a35 := Tryz.isAgg301
  z35 := Tryz.sizeOf301
  v35 := Tryz.zeroValue301
  t36 := Tryz.underlying302
  a36 := Tryz.isAgg302
  z36 := Tryz.sizeOf302
  v36 := Tryz.zeroValue302
  t41 := Tryz.underlying287
  a41 := Tryz.isAgg287
  z41 := Tryz.sizeOf287
  v41 := Tryz.zeroValue287
  t44 := Tryz.underlying308
  a44 := Tryz.isAgg308
  z44 := Tryz.sizeOf308
  v44 := Tryz.zeroValue308
  t46 := Tryz.underlying310
  a46 := Tryz.isAgg310
  z46 := Tryz.sizeOf310
  v46 := Tryz.zeroValue310
  t53 := Tryz.underlying318
  a53 := Tryz.isAgg318
  z53 := Tryz.sizeOf318
  v53 := Tryz.zeroValue318
  t57 := Tryz.underlying322
  a57 := Tryz.isAgg322
  z57 := Tryz.sizeOf322
  v57 := Tryz.zeroValue322
  t63 := Tryz.underlying338
  a63 := Tryz.isAgg338
  z63 := Tryz.sizeOf338
  v63 := Tryz.zeroValue338
  t64 := Tryz.underlying240
  a64 := Tryz.isAgg240
  z64 := Tryz.sizeOf240
  v64 := Tryz.zeroValue240 }
open Go.RowKit Go.Maps Go.Sort Go.Shelf
theorem Tryz.sorts160 (m : Nat) : AnyZ.SortsIn Tryz.prog Tryz.sorted160_ren Fence.wide m :=
  ⟨fun blk off cap ss W hH hblk hsz => callsIn_wide.2 (AnyM.slices_Sort_string Tryz.sort199 blk off cap ss W hH hblk hsz),
   fun p cap W => callsIn_wide.2 (AnyM.slices_Sort_string_none Tryz.sort199 p cap W)⟩
theorem Tryz.maps_Keys_161 (mb : Option Nat) (W : World) : CallsIn Fence.wide 5 Tryz.prog 161 #[.map mb] W fun e w' => e = .returned (.func (.func 200) #[] #[.pointer (some ⟨W.heap.size, 0, none⟩)]) ∧ w' = W.alloc (.cells #[.map mb] 135) :=
  AnyZ.keys_in Tryz.keys161 Fence.wide 5 trivial rfl mb W
set_option maxHeartbeats 1000000 in
theorem Tryz.slices_Sorted_keys_160_161 {H : Type} (b nn : Nat) (D0 : DataW H) (R : Value → Option (DataW H × List MemPlace)) (w : World) (hown : w.ownsMap Tryz.prog 9 R b nn D0) (hmax : Maps.size D0 ≤ maxLen) (hbytes : Maps.size D0 * 16 ≤ 140737488355328) :
    CallsIn Fence.wide 5 Tryz.prog 160 #[.func (.func 200) #[] #[.pointer (some ⟨w.heap.size, 0, none⟩)]] (w.alloc (.cells #[.map (some b)] 135)) fun e w' => ∃ (v : Value) (ss : List (List UInt8)), e = .returned v ∧ ss.Perm (strKeys D0) ∧
      w'.ownsRow (w.alloc (.cells #[.map (some b)] 135)).heap.size 9 1 v ss.length ((ss.mergeSort (fun x y => decide (x ≤ y))).map encStr) ∧ (v = .slice none 0 0 ↔ ss = []) ∧ Below (w.alloc (.cells #[.map (some b)] 135)).heap.size (w.alloc (.cells #[.map (some b)] 135)) w' := by
  have hbl := hown.lt
  have hseq : SeqGives Fence.wide 2 Tryz.prog 200 #[.pointer (some ⟨w.heap.size, 0, none⟩)] encStr (fun ss => ss.Perm (strKeys D0)) (Maps.size D0) (w.alloc (.cells #[.map (some b)] 135)) :=
    AnyZ.keys_gives (ρ := Tryz.keys161_ren) { Tryz.keys161 with } Fence.wide _ trivial rfl (by omega) w.heap.size b nn D0 _ (by simp) (by simp) (by
      obtain ⟨es, clock, hb, Ft, hs, hD⟩ := hown
      exact ⟨es, clock, (Below.heap_alloc _ _ b hbl).trans hb, Ft, hs, hD⟩)
  exact AnyZ.sorted_in Tryz.sorted160 Fence.wide 5 trivial trivial trivial trivial rfl (by omega) (Tryz.sorts160 _) (enters_of Tryz.func199 (by kernel_rfl) rfl) 200 #[.pointer (some ⟨w.heap.size, 0, none⟩)] trivial (enters_of Tryz.func200 (by kernel_rfl) rfl) _ _ hmax hbytes _ hseq
end Go.Proofs
namespace Go.Proofs.YtgnfknjopafngaaGreatDoor
open Go.RowKit Go.Maps Go.Sort
theorem less_lt : ∀ (a b : List UInt8), Op.bytesLess a b = true ↔ a < b
  | _, [] => by simp [Op.bytesLess]
  | [], _ :: _ => by simp [Op.bytesLess]
  | a :: x, b :: y => by
    rw [List.cons_lt_cons_iff, ← less_lt x y]
    simp [Op.bytesLess]
theorem merge_sort {ss : List (List UInt8)} (h : ss.Nodup) : ss.mergeSort (fun x y => decide (x ≤ y)) = M.sortN ss := by
  refine M.Rising.eq ?_ (M.sortN_rising h) (fun x => by rw [List.mem_mergeSort, (M.sortN_perm ss).mem_iff])
  have hp : (ss.mergeSort (fun x y => decide (x ≤ y))).Pairwise (fun a b => decide (a ≤ b) = true) := by
    refine List.pairwise_mergeSort (fun a b c hab hbc => ?_) (fun a b => ?_) ss
    · simp only [decide_eq_true_eq] at *
      exact List.le_trans hab hbc
    · simp only [Bool.or_eq_true, decide_eq_true_eq]
      exact List.le_total a b
  have hn : (ss.mergeSort (fun x y => decide (x ≤ y))).Nodup := (List.mergeSort_perm ss _).nodup_iff.2 h
  refine (hp.and hn).imp (fun {a b} hab => ?_)
  obtain ⟨h1, h2⟩ := hab
  simp only [decide_eq_true_eq] at h1
  rw [less_lt]
  exact Decidable.byContradiction (fun hlt => h2 (List.le_antisymm h1 (List.not_lt.1 hlt)))
theorem str_keys {es : List (Lit × DataW Value)} {l : List KV} (h : es.Perm (l.map toE)) : (strKeys (.map es)).Perm (l.map Prod.fst) := by
  have := h.map (fun p => strOf p.1)
  rw [List.map_map] at this
  exact this
set_option maxRecDepth 100000 in
set_option maxHeartbeats 2000000 in
theorem names_any (b : Nat) (l : List M.Pk) (w : World) (hl : SetIn w b l) (hn : l.length ≤ 1000000) :
    Calls Tryz.prog 120 #[.map (some b)] w fun e w' => ∃ v, e = .returned v ∧ w'.ownsRow w.heap.size 9 1 v l.length (nmCells (M.sortN (l.map M.Pk.name))) ∧ Below w.heap.size w w' := by
  have ha := hl.apart
  obtain ⟨f, ⟨n, es, h1, h2, h3, h4⟩, _⟩ := hl
  have hlen : es.length = l.length := by rw [h3.length_eq, List.length_map, List.length_map]
  have cK := fun W => callsIn_wide.1 (Tryz.maps_Keys_161 (some b) W)
  have cS := callsIn_wide.1 (Tryz.slices_Sorted_keys_160_161 b n (.map es) heldE w h1 (by rw [Maps.size_eq]; unfold maxLen; omega) (by rw [Maps.size_eq]; omega))
  have HP : Hid ((strKeys (.map es)).Perm (l.map M.Pk.name)) := by
    have := str_keys h3
    rw [List.map_map] at this
    exact this
  have HA : Hid (M.Apart l) := ha
  clear h1 h2 h3 h4 ha hlen
  go_enter Tryz.func120, Tryz.ntmps120
  go_wp2_with (first
    | (go_at_call 161; refine (cK _).mono ?_; rintro e w' ⟨rfl, rfl⟩)
    | (go_at_call 160; refine cS.mono ?_; rintro e w' ⟨v, ss, rfl, hS, hrow, hnil, hb⟩))
  go_ret
  have hp := hS.trans HP.out
  have hnd : ss.Nodup := hp.nodup_iff.2 HA.out
  have es1 : ss.mergeSort (fun x y => decide (x ≤ y)) = M.sortN (l.map M.Pk.name) := (merge_sort hnd).trans (M.sortN_eq hnd HA.out (fun x => hp.mem_iff))
  rw [es1, hp.length_eq, List.length_map] at hrow
  exact ⟨v, rfl, ownsRow_base_a hrow (by simp), ((Below.refl _ w).alloc (Nat.le_refl _) _).trans (hb.mono (by simp))⟩
end Go.Proofs.YtgnfknjopafngaaGreatDoor
namespace Go.Proofs.YtgnfknjopafngaaGreatDoor
open Go.RowKit Go.Maps
structure Stands (w w' : World) : Prop where
  size : w.heap.size ≤ w'.heap.size
  cell : ∀ g o u, w.cell? ⟨g, o, none⟩ = some u → w'.cell? ⟨g, o, none⟩ = some u
  ty : ∀ g, g < w.heap.size → StrBlk w' g → StrBlk w g
theorem Stands.of {w w' : World} (h : Below w.heap.size w w') : Stands w w' := ⟨h.size, fun g o _ hu => (h.cell (p := ⟨g, o, none⟩) (World.block_lt_of_cell? _ _ hu)).trans hu, fun _ hg => (belowS (o := 0) h hg).2⟩
theorem Stands.trans {a b c : World} (h : Stands a b) (k : Stands b c) : Stands a c := ⟨Nat.le_trans h.size k.size, fun g o u hu => k.cell g o u (h.cell g o u hu), fun g hg e => h.ty g hg (k.ty g (Nat.lt_of_lt_of_le hg h.size) e)⟩
theorem StrMap.block? {P : Program} {K : TypeId} {w : World} {b : Nat} {l : List KV} (h : StrMap P K w b l) : ∃ es c, w.heap[b]? = some (.map es c) := by
  obtain ⟨_, _, ⟨es, c, h, _⟩, _⟩ := h
  exact ⟨es, c, h⟩
theorem Stands.put {P : Program} {K : TypeId} {w w' : World} {b : Nat} {l l' : List KV} (h : StrMap P K w b l) (h' : StrMap P K w' b l') (hg : w.grownBy w' (some b)) : Stands w w' := by
  refine ⟨hg.size, fun g o u hu => ?_, fun g hl ⟨c, f, e⟩ => ?_⟩
  rotate_left
  · have hne : g ≠ b := by
      rintro rfl
      obtain ⟨es', c3, hb'⟩ := h'.block?
      rw [hb'] at e
      cases e
    exact ⟨c, f, (hg.block g hl (fun e => hne (Option.some.inj e))).symm.trans e⟩
  have hlt : g < w.heap.size := World.block_lt_of_cell? _ _ hu
  have hne : g ≠ b := by
    rintro rfl
    obtain ⟨es, c, hb⟩ := h.block?
    simp [World.cell?, hb] at hu
  exact (World.cell?_of_block (a := ⟨g, o, none⟩) (hg.block g hlt (fun e => hne (Option.some.inj e)))).trans hu
theorem RowIn.stands {w w' : World} {n : Nat} {v : Value} {xs : List Value} (h : RowIn w 0 w.heap.size v n xs) (hs : Stands w w') : RowIn w' 0 w'.heap.size v n xs := by
  obtain h | ⟨g, cap, h1, h2, h3, h4, h5⟩ := h
  · exact .inl h
  · exact .inr ⟨g, cap, h1, h2, h3, ⟨Nat.lt_of_lt_of_le h4.1 hs.size, fun e => h4.2 (hs.ty g h4.1 e)⟩, fun j u hj => hs.cell _ _ _ (h5 j u hj)⟩
theorem NeedsIn.stands {w w' : World} {v : Value} {l : List (List M.Ch)} (h : NeedsIn w 0 w.heap.size v l) (hs : Stands w w') : NeedsIn w' 0 w'.heap.size v l := by
  obtain ⟨vs, h1, h2, h3⟩ := h
  exact ⟨vs, h1.stands hs, h2, fun i x hx => by obtain ⟨u, a, b⟩ := h3 i x hx; exact ⟨u, a, b.stands hs⟩⟩
theorem PkVal.stands {w w' : World} {p : M.Pk} {v : Value} (h : PkVal w p v) (hs : Stands w w') : PkVal w' p v := by
  obtain ⟨nv, bv, fv, e, h1, h2, h3⟩ := h
  exact ⟨nv, bv, fv, e, h1.stands hs, h2.stands hs, h3.stands hs⟩
theorem SetIn.put {w w' : World} {b : Nat} {l : List M.Pk} {p : M.Pk} {v : Value} {f : M.Pk → Value} (h1 : StrMap Tryz.prog 9 w b (l.map fun p => (p.name, f p))) (h2 : ∀ p ∈ l, PkVal w p (f p)) (hp : PkVal w p v) (hn : ∀ q ∈ l, q.name ≠ p.name)
    (h : StrMap Tryz.prog 9 w' b (putK (l.map fun p => (p.name, f p)) p.name v)) (hg : w.grownBy w' (some b)) : SetIn w' b (l ++ [p]) := by
  have hs := Stands.put h1 h hg
  refine ⟨fun q => if q.name = p.name then v else f q, ?_, fun q hq => ?_⟩
  · refine (h.perm (put_new (fun q hq => ?_))).perm (List.Perm.of_eq ?_)
    · obtain ⟨x, hx, rfl⟩ := List.mem_map.1 hq
      exact hn x hx
    · rw [List.map_append]
      congr 1
      · exact List.map_congr_left (fun q hq => by dsimp only; rw [if_neg (hn q hq)])
      · simp
  · rcases List.mem_append.1 hq with hq | hq
    · dsimp only
      rw [if_neg (hn q hq)]
      exact (h2 q hq).stands hs
    · simp at hq
      subst hq
      dsimp only
      rw [if_pos rfl]
      exact hp.stands hs
theorem zero_shape : PkShape zeroPk := ⟨_, _, _, _, _, _, _, _, _, _, _, rfl⟩
theorem look2_set {l : List M.Pk} {f : M.Pk → Value} {w : World} (ha : M.Apart l) (hv : ∀ p ∈ l, PkVal w p (f p)) (n : List UInt8) :
    PkShape ((lookK (l.map fun p => (p.name, f p)) n).getD zeroPk) ∧ (lookK (l.map fun p => (p.name, f p)) n).isSome = decide (0 ≤ M.findS l n) := by
  rcases look_set (f := f) ha n with ⟨p, hp, e, hlk⟩ | ⟨hno, hlk⟩
  · rw [hlk]
    refine ⟨(hv p hp).shape, ?_⟩
    rw [Option.isSome_some, eq_comm, decide_eq_true_eq]
    exact Decidable.byContradiction (fun hh => M.find_neg.1 hh p hp e)
  · rw [hlk]
    refine ⟨zero_shape, ?_⟩
    rw [Option.isSome_none, eq_comm, decide_eq_false_iff_not]
    exact M.find_neg.2 hno
theorem find_app (l k : List M.Pk) (n : List UInt8) : (0 ≤ M.findS (l ++ k) n) ↔ (0 ≤ M.findS l n ∨ 0 ≤ M.findS k n) := by
  have e : ∀ x : List M.Pk, (0 ≤ M.findS x n) ↔ ∃ p ∈ x, p.name = n := fun x => by
    refine ⟨fun h => Decidable.byContradiction (fun hh => M.find_neg.2 (fun p hp e => hh ⟨p, hp, e⟩) h), fun ⟨p, hp, e⟩ => Decidable.byContradiction (fun hh => M.find_neg.1 hh p hp e)⟩
  rw [e, e, e]
  constructor
  · rintro ⟨p, hp, h⟩
    rcases List.mem_append.1 hp with hp | hp
    · exact .inl ⟨p, hp, h⟩
    · exact .inr ⟨p, hp, h⟩
  · rintro (⟨p, hp, h⟩ | ⟨p, hp, h⟩)
    · exact ⟨p, List.mem_append.2 (.inl hp), h⟩
    · exact ⟨p, List.mem_append.2 (.inr hp), h⟩
def AddsPost (R : Sum M.Fa (List M.Pk)) (fresh : List M.Pk) (w : World) (e : Ending) (w' : World) : Prop :=
  Below w.heap.size w w' ∧ match R with
    | .inl f => ∃ ev, e = .returned (.tuple #[.map none, ev]) ∧ ErrIs f w' ev
    | .inr _ => ∃ b, e = .returned (.tuple #[.map (some b), .nilIface]) ∧ SetIn w' b fresh
set_option maxRecDepth 100000 in
set_option maxHeartbeats 8000000 in
theorem add_any (b : Nat) (l fresh : List M.Pk) (v : Value) (w : World) (hl : SetIn w b l) (hv : PksIn w v fresh) (hn : fresh.length ≤ 1000000) (hnm : ∀ p ∈ fresh, p.name.length ≤ 100000) :
    Calls Tryz.prog 188 #[.map (some b), v] w (AddsPost (M.addAllS fresh 0 l) fresh w) := by
  have hmm := @run_makeMap Tryz.prog
  have sz : ∀ q : List UInt8, (ByteArray.mk q.toArray).size = q.length := fun q => by rw [← len_data]
  obtain ⟨av, cv, ev⟩ := hv.form
  subst ev
  have ha := hl.apart
  have hbl := hl.lt
  obtain ⟨f, m1, v1⟩ := hl
  generalize hW1 : w.alloc (.map #[] 0) = W1
  have hga : w.grownBy W1 none := by rw [← hW1]; exact World.grownBy_alloc w _ none
  have HB1 : Hid (Below w.heap.size w W1) := by rw [← hW1]; exact (Below.refl _ w).alloc (Nat.le_refl _) _
  have hm0 : StrMap Tryz.prog 9 W1 w.heap.size [] := by rw [← hW1]; exact StrMap.made w
  have HI : Hid (∀ W, Below w.heap.size w W → StrMap Tryz.prog 9 W b (l.map fun p => (p.name, f p))) := fun W hb => m1.below hb hbl
  have HV1 : Hid (∀ p ∈ l, PkVal w p (f p)) := v1
  have HA : Hid (M.Apart l) := ha
  have HL : Hid (PksIn w (.slice av fresh.length cv) fresh) := hv
  have HN : Hid (∀ p ∈ fresh, p.name.length ≤ 100000) := hnm
  clear ha hv m1 v1 hnm hga
  go_enter Tryz.func188, Tryz.ntmps188
  go_wp2
  go_loopw [7, 8, 9, 10, 11, 12, 16] (fun _ _ _ _ _ _ i wr => ∃ (k : Nat) (g : M.Pk → Value), i = .int .i64 k ∧ k ≤ fresh.length ∧ Below w.heap.size w wr ∧ Hid (StrMap Tryz.prog 9 wr w.heap.size ((fresh.take k).map fun p => (p.name, g p))) ∧ Hid (∀ p ∈ fresh.take k, PkVal wr p (g p)) ∧ Hid (M.addAllS (fresh.take k) 0 l = .inr (l ++ fresh.take k))) (fun _ _ _ _ _ _ i _ => fresh.length - (intOf i).toNat)
  case atStart => exact ⟨0, f, rfl, Nat.zero_le _, HB1.out, hm0, fun p hp => by simp at hp, by show _ = _; rw [List.take_zero, List.append_nil]; rfl⟩
  case round =>
    obtain ⟨k, g, rfl, hk, hBr, HM, HG, HAdd⟩ := hrel
    by_cases hlt : k < fresh.length
    · obtain ⟨bf, of, rfl, _, hcapf, nv, bv, fv, o0, o1, o2, o3, o4, hn1, hn2, hn3⟩ := HL.out.cells hlt
      have p0 := (hBr.cell (p := ⟨bf, of + k * 5, none⟩) (World.block_lt_of_cell? _ _ o0)).trans o0
      have p1 := (hBr.cell (p := ⟨bf, of + k * 5 + 1, none⟩) (World.block_lt_of_cell? _ _ o1)).trans o1
      have p2 := (hBr.cell (p := ⟨bf, of + k * 5 + 2, none⟩) (World.block_lt_of_cell? _ _ o2)).trans o2
      have p3 := (hBr.cell (p := ⟨bf, of + k * 5 + 3, none⟩) (World.block_lt_of_cell? _ _ o3)).trans o3
      have p4 := (hBr.cell (p := ⟨bf, of + k * 5 + 4, none⟩) (World.block_lt_of_cell? _ _ o4)).trans o4
      have HPV : Hid (PkVal w fresh[k] (.agg #[.string ⟨fresh[k].name.toArray⟩, .string ⟨fresh[k].ver.toArray⟩, nv, bv, fv])) := ⟨nv, bv, fv, rfl, hn1, hn2, hn3⟩
      obtain ⟨an, cn, en⟩ := hn1.form
      obtain ⟨ab, cb, eb⟩ := hn2.form
      obtain ⟨ac, cc, ec⟩ := hn3.form
      subst en eb ec
      clear o0 o1 o2 o3 o4 hn1 hn2 hn3
      have hsz : (ByteArray.mk fresh[k].name.toArray).size ≤ maxLen := by rw [sz]; have := HN.out _ (List.getElem_mem hlt); unfold maxLen; omega
      have HApK : Hid (M.Apart (fresh.take k)) := by
        have := HM.out.keys
        unfold Keys at this
        rw [List.map_map] at this
        exact this
      obtain ⟨⟨a1, b1, x1, n1, c1, y1, m1, d1, z1, q1, e1, hs1⟩, hf1⟩ := look2_set HA.out HV1.out fresh[k].name
      obtain ⟨⟨a2, b2, x2, n2, c2, y2, m2, d2, z2, q2, e2, hs2⟩, hf2⟩ := look2_set HApK.out HG.out fresh[k].name
      obtain ⟨B1, hB1⟩ : ∃ B, B = decide (0 ≤ M.findS l fresh[k].name) := ⟨_, rfl⟩
      obtain ⟨B2, hB2⟩ : ∃ B, B = decide (0 ≤ M.findS (fresh.take k) fresh[k].name) := ⟨_, rfl⟩
      have HB : Hid ((0 ≤ M.findS (l ++ fresh.take k) fresh[k].name) ↔ (B1 = true ∨ B2 = true)) := by show _ ↔ _; rw [find_app, hB1, hB2, decide_eq_true_eq, decide_eq_true_eq]
      rw [← hB1] at hf1
      rw [← hB2] at hf2
      clear hB1 hB2
      obtain ⟨Y, hY⟩ : ∃ Y : ByteArray, Y = ⟨fresh[k].name.toArray⟩ := ⟨_, rfl⟩
      obtain ⟨V, hV⟩ : ∃ V : ByteArray, V = ⟨fresh[k].ver.toArray⟩ := ⟨_, rfl⟩
      have hYd : Y.data.toList = fresh[k].name := by rw [hY]
      have HYV : Hid (Y = ⟨fresh[k].name.toArray⟩ ∧ V = ⟨fresh[k].ver.toArray⟩) := ⟨hY, hV⟩
      rw [← hY] at p0 hsz
      rw [← hV] at p1
      generalize hW3 : wr.alloc (.cells #[.string Y, .string V, .slice an fresh[k].needs.length cn, .slice ab fresh[k].bars.length cb, .slice ac fresh[k].files.length cc] 108) = W3
      have h3 : Below wr.heap.size wr W3 := by rw [← hW3]; exact (Below.refl _ wr).alloc (Nat.le_refl _) _
      have HC3 : Hid (∀ j u, [Value.string Y, .string V, .slice an fresh[k].needs.length cn, .slice ab fresh[k].bars.length cb, .slice ac fresh[k].files.length cc][j]? = some u → W3.cell? ⟨wr.heap.size, j, none⟩ = some u) := by rw [← hW3]; exact fun j u hu => new_at wr _ _ j u hu
      generalize hW4 : W3.alloc (.cells #[.string a1, .string b1, .slice x1 n1 c1, .slice y1 m1 d1, .slice z1 q1 e1] 108) = W4
      have h4 : Below W3.heap.size W3 W4 := by rw [← hW4]; exact (Below.refl _ W3).alloc (Nat.le_refl _) _
      generalize hW5 : W4.alloc (.cells #[.string a2, .string b2, .slice x2 n2 c2, .slice y2 m2 d2, .slice z2 q2 e2] 108) = W5
      have h5 : Below W4.heap.size W4 W5 := by rw [← hW5]; exact (Below.refl _ W4).alloc (Nat.le_refl _) _
      have hr1 : (Instr.lookup 135 (.map (some b)) (.string Y) true).run Tryz.prog W3 = .ok (.tuple #[.agg #[.string a1, .string b1, .slice x1 n1 c1, .slice y1 m1 d1, .slice z1 q1 e1], .bool B1]) W3 := by
        rw [(HI.out W3 (bt hBr h3)).look2 Tryz.underlying9 setMap (zeroPk_run W3) hsz, hYd, hs1, hf1]
      have hr2 : (Instr.lookup 135 (.map (some w.heap.size)) (.string Y) true).run Tryz.prog W4 = .ok (.tuple #[.agg #[.string a2, .string b2, .slice x2 n2 c2, .slice y2 m2 d2, .slice z2 q2 e2], .bool B2]) W4 := by
        have hm := HM.out.below (bt h3 h4) HM.out.lt
        rw [hm.look2 Tryz.underlying9 setMap (zeroPk_run W4) hsz, hYd, hs2, hf2]
      have HC4 : Hid (∀ j u, [Value.string Y, .string V, .slice an fresh[k].needs.length cn, .slice ab fresh[k].bars.length cb, .slice ac fresh[k].files.length cc][j]? = some u → W4.cell? ⟨wr.heap.size, j, none⟩ = some u) := fun j u hu => (h4.cell (p := ⟨wr.heap.size, j, none⟩) (World.block_lt_of_cell? _ _ (HC3.out j u hu))).trans (HC3.out j u hu)
      have HC5 : Hid (∀ j u, [Value.string Y, .string V, .slice an fresh[k].needs.length cn, .slice ab fresh[k].bars.length cb, .slice ac fresh[k].files.length cc][j]? = some u → W5.cell? ⟨wr.heap.size, j, none⟩ = some u) := fun j u hu => (h5.cell (p := ⟨wr.heap.size, j, none⟩) (World.block_lt_of_cell? _ _ (HC4.out j u hu))).trans (HC4.out j u hu)
      have r30 := HC3.out 0 _ rfl
      have r40 := HC4.out 0 _ rfl
      have r50 := HC5.out 0 _ rfl
      have r51 := HC5.out 1 _ rfl
      have r52 := HC5.out 2 _ rfl
      have r53 := HC5.out 3 _ rfl
      have r54 := HC5.out 4 _ rfl
      have H5 : Hid (Below wr.heap.size wr W5) := bt h3 (bt h4 h5)
      have HYd : Hid (Y.data.toList = fresh[k].name) := hYd
      clear hs1 hs2 hf1 hf2 hYd hY hV h3 h4 h5
      by_cases hB : (B1 || B2) = true
      · have HP : Hid (M.addAllS fresh 0 l = .inl ⟨2, k, 0, fresh[k].name⟩) := by
          show _ = _
          have e : fresh = fresh.take k ++ fresh[k] :: fresh.drop (k + 1) := by simp
          have h2 := M.addAll_snoc (fresh.take k) 0 l (l ++ fresh.take k) fresh[k] (fresh.drop (k + 1)) HAdd.out
          rw [← e, if_pos (HB.out.2 (by simpa using hB))] at h2
          rw [h2]
          simp [Nat.min_eq_left hk]
        have HEr : Hid (ErrIs ⟨2, k, 0, fresh[k].name⟩ ((W5.alloc (.cells #[.int .i64 2, .int .i64 k, .int .i64 0, .string Y] 117)).drew) (.iface 112 (.pointer (some ⟨W5.heap.size, 0, none⟩)))) := by
          refine ⟨_, rfl, ?_⟩
          rw [HYV.out.1]
          exact fault_drew (fault_new (w := W5) 2 k 0 _ 117)
        have HB5 : Hid (Below w.heap.size w W5) := bt hBr H5.out
        clear HM HG HAdd HI HL HV1 HC3 HC4 HC5 HB
        cases B1 with
        | true =>
          go_wp2
          go_region
          all_goals
            go_wp2
            refine bodyPost_ret (v := .tuple #[.map none, .iface 112 (.pointer (some ⟨W5.heap.size, 0, none⟩))]) (by simp [results, Tryz.results188, go_sem]) rfl ⟨below_drewN (HB5.out.alloc HB5.out.size _) 1, ?_⟩
            rw [HP.out]
            exact ⟨_, rfl, HEr.out⟩
        | false =>
          have hB2 : B2 = true := by simpa using hB
          subst hB2
          go_wp2
          go_region
          all_goals
            go_wp2
            refine bodyPost_ret (v := .tuple #[.map none, .iface 112 (.pointer (some ⟨W5.heap.size, 0, none⟩))]) (by simp [results, Tryz.results188, go_sem]) rfl ⟨below_drewN (HB5.out.alloc HB5.out.size _) 1, ?_⟩
            rw [HP.out]
            exact ⟨_, rfl, HEr.out⟩
      · have hb1 : B1 = false := by cases B1 with | false => rfl | true => simp at hB
        have hb2 : B2 = false := by cases B2 with | false => rfl | true => simp at hB
        subst hb1 hb2
        have HNew : Hid (∀ q ∈ fresh.take k, q.name ≠ fresh[k].name) := fun q hq e => by
          have : ¬ (0 ≤ M.findS (l ++ fresh.take k) fresh[k].name) := fun h => by rcases HB.out.1 h with h | h <;> cases h
          exact M.find_neg.1 this q (List.mem_append.2 (.inr hq)) e
        have HAdd2 : Hid (M.addAllS (fresh.take (k + 1)) 0 l = .inr (l ++ fresh.take (k + 1))) := by
          show _ = _
          have h2 := M.addAll_snoc (fresh.take k) 0 l (l ++ fresh.take k) fresh[k] [] HAdd.out
          rw [if_neg (fun h => by rcases HB.out.1 h with h | h <;> cases h)] at h2
          rw [List.take_succ_eq_append_getElem hlt, ← List.append_assoc]
          exact h2
        have hm5 : StrMap Tryz.prog 9 W5 w.heap.size ((fresh.take k).map fun p => (p.name, g p)) := HM.out.below H5.out HM.out.lt
        have hlen : ((fresh.take k).map fun p => (p.name, g p)).length < maxLen := by rw [List.length_map, List.length_take]; unfold maxLen; omega
        have HB5 : Hid (Below w.heap.size w W5) := bt hBr H5.out
        have HG5 : Hid (∀ p ∈ fresh.take k, PkVal W5 p (g p)) := fun p hp => (HG.out p hp).below H5.out
        have HP5 : Hid (PkVal W5 fresh[k] (.agg #[.string Y, .string V, .slice an fresh[k].needs.length cn, .slice ab fresh[k].bars.length cb, .slice ac fresh[k].files.length cc])) := by rw [HYV.out.1, HYV.out.2]; exact HPV.out.below HB5.out
        clear HM HG HAdd HI HL HV1 HC3 HC4 HC5 HB HPV
        go_wp2_with (first | (at_mapUpdate; refine wpList_put_str rfl _ _ _ rfl Tryz.underlying9 setMap w.heap.size ((fresh.take k).map fun p => (p.name, g p)) rfl hm5 hlen Y (.agg #[.string Y, .string V, .slice an fresh[k].needs.length cn, .slice ab fresh[k].bars.length cb, .slice ac fresh[k].files.length cc]) rfl hsz rfl ?_; intro w6 hm6 hg6; go_frame) | go_in)
        obtain ⟨g2, hm7, hv7⟩ : SetIn w6 w.heap.size (fresh.take k ++ [fresh[k]]) := SetIn.put hm5 HG5.out HP5.out HNew.out (by rw [← HYd.out]; exact hm6) hg6
        have HM7 : Hid (StrMap Tryz.prog 9 w6 w.heap.size ((fresh.take (k + 1)).map fun p => (p.name, g2 p))) := by show StrMap _ _ _ _ _; rw [List.take_succ_eq_append_getElem hlt]; exact hm7
        have HV7 : Hid (∀ p ∈ fresh.take (k + 1), PkVal w6 p (g2 p)) := by rw [List.take_succ_eq_append_getElem hlt]; exact hv7
        have HB7 : Below w.heap.size w w6 := HB5.out.grown hg6 HB5.out.size (fun j hj => by cases hj; exact Nat.le_refl _)
        clear hm6 hm7 hv7 hg6 hm5
        go_wp2
        go_roundw
        case rel => exact ⟨k + 1, g2, by go_num, by omega, HB7, HM7, HV7, HAdd2⟩
        case measure => simp [intOf]; omega
    · have hkk : k = fresh.length := by omega
      have HS : Hid (SetIn wr w.heap.size fresh) := by
        have h1 := HM.out
        have h2 := HG.out
        rw [hkk, List.take_length] at h1 h2
        exact ⟨g, h1, h2⟩
      have HP : Hid (M.addAllS fresh 0 l = .inr (l ++ fresh)) := by
        have h := HAdd.out
        rw [hkk, List.take_length] at h
        exact h
      clear hkk HM HG HAdd
      go_wp2
      refine bodyPost_ret (v := .tuple #[.map (some w.heap.size), .nilIface]) (by simp [results, Tryz.results188, go_sem]) rfl ⟨hBr, ?_⟩
      rw [HP.out]
      exact ⟨_, rfl, HS.out⟩
end Go.Proofs.YtgnfknjopafngaaGreatDoor
