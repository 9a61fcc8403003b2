import Derived.Test.YtgnfknjopafngaaGreatDoorKsac
import Derived.Test.YtgnfknjopafngaaGreatDoorKsz
import Derived.Test.YtgnfknjopafngaaGreatDoorKse
import Derived.Test.YtgnfknjopafngaaGreatDoorKsb
import Derived.Test.YtgnfknjopafngaaGreatDoorKsu
namespace Go.Proofs.YtgnfknjopafngaaGreatDoor
open Go.RowKit Go.Maps
set_option maxRecDepth 100000 in
set_option maxHeartbeats 400000 in
theorem open_any (x d n half : Nat) (s0 hv sv lv : Value) (D : M.Dk) (l : List M.Pk) (w : World) (hR : Ready w) (hx : SessAt w x d s0) (h : DiskIs w d hv sv lv D) (hl : M.Lies D.seen n half (M.packed l)) (h1 : 16 ≤ n) (h2 : n ≤ 256) (hb : ∀ p ∈ l, M.Back p) (ha : M.Apart l) (hs : M.sizeS l ≤ 8192) (hn : l.length ≤ 1000) (hln : ∀ p ∈ l, ∀ y ∈ p.needs, y.length ≤ 15) :
    Calls Tryz.prog 45 #[.pointer (some ⟨x, 0, none⟩)] w fun e w' => ∃ s k b, e = .returned okV ∧ SessAt w' x d (.pointer (some ⟨s, 0, none⟩)) ∧ StoreAt w' s k b ∧ KnownAt w' k d half ∧ SetIn w' b l ∧ w.heap.size ≤ s ∧ w.heap.size ≤ k ∧ w.grownBy w' (some x) := by
  generalize hA : w.alloc (.cells okC 23) = A
  have hB : Below w.heap.size w A := by rw [← hA]; exact (Below.refl _ w).alloc (Nat.le_refl _) _
  have hr : A.heap[w.heap.size]? = some (.cells okC 23 (0, 0)) := by rw [← hA]; exact heap_alloc_new w _
  have hxl : x < w.heap.size := (Array.getElem?_eq_some_iff.1 hx).1
  have hxA : A.heap[x]? = _ := (hB.block x hxl).trans hx
  have q0 : A.cell? ⟨x, 0, none⟩ = some (.pointer (some ⟨d, 0, none⟩)) := (cell_of_row A _ 0 _ _ (0, 0) hxA).trans rfl
  have cO := pOpen_any d n half hv sv lv D l A (hR.below hB) (h.below hB) hl h1 h2 hb ha hs hn
  have cP := parts_nil
  have HX : Hid (A.heap[x]? = some (.cells #[.pointer (some ⟨d, 0, none⟩), s0] 88 (0, 0))) := hxA
  have HRr : Hid (A.heap[w.heap.size]? = some (.cells okC 23 (0, 0))) := hr
  have hAs : w.heap.size < A.heap.size := (Array.getElem?_eq_some_iff.1 hr).1
  clear hR h hx hxA hr hl
  go_enter Tryz.func45, Tryz.ntmps45
  go_wp2_with fail
  refine cO.mono ?_
  rintro e w1 ⟨s, k, b, rfl, hS, hK, hT, hsl, hkl, hB1⟩
  have hx1 : w1.heap[x]? = some (.cells #[.pointer (some ⟨d, 0, none⟩), s0] 88 (0, 0)) := (hB1.block x (by omega)).trans HX.out
  have x1 : w1.cell? ⟨x, 1, none⟩ = some s0 := (cell_of_row w1 _ 1 _ _ (0, 0) hx1).trans rfl
  have x2 : w1.frozen? ⟨x, 1, none⟩ = false := frozen_of_row w1 _ _ _ _ hx1
  generalize hW1 : w1.setCell ⟨x, 1, none⟩ (.pointer (some ⟨s, 0, none⟩)) = W1
  have g1 : w1.grownBy W1 (some x) := by rw [← hW1]; exact ⟨rfl, rfl, rfl, by simp, fun j _ hj => Below.heap_setCell _ _ _ _ (fun e => hj (by rw [e]))⟩
  have k1 : W1.heap[x]? = some (.cells #[.pointer (some ⟨d, 0, none⟩), .pointer (some ⟨s, 0, none⟩)] 88 (0, 0)) := by rw [← hW1]; exact heap_setCell_same w1 x 1 _ _ _ hx1
  have hb1 : b < w1.heap.size := hT.lt
  have nt1 : NoText (fun i => i = x) w1 := NoText.one hx1 (fun s e => by cases e) (fun a n p e => by cases e)
  have hkx : k ≠ x := by
    intro e
    rw [e] at hK
    unfold KnownAt at hK
    rw [hx1] at hK
    cases hK
  have HS : Hid (StoreAt W1 s k b ∧ KnownAt W1 k d half ∧ SetIn W1 b l) :=
    ⟨(g1.block s (Array.getElem?_eq_some_iff.1 hS).1 (fun e => by have := Option.some.inj e; omega)).trans hS, (g1.block k (Array.getElem?_eq_some_iff.1 hK).1 (fun e => hkx (Option.some.inj e))).trans hK, hT.chg (Chg.grown g1 (fun k e _ => (Option.some.inj e).symm)) nt1 hln⟩
  have HG : Hid (A.grownBy W1 (some x)) := ⟨g1.os.trans hB1.os, g1.tape.trans hB1.tape, g1.output.trans hB1.output, Nat.le_trans hB1.size g1.size, fun j hj hne => (g1.block j (Nat.lt_of_lt_of_le hj hB1.size) hne).trans (hB1.block j hj)⟩
  have HK1 : Hid (W1.heap[x]? = some (.cells #[.pointer (some ⟨d, 0, none⟩), .pointer (some ⟨s, 0, none⟩)] 88 (0, 0))) := k1
  clear hS hK hT cO hx1 k1 g1 nt1 hkx hb1 hB1
  go_wp2_with fail
  refine (cP W1).mono ?_
  rintro e w2 ⟨rfl, hB2⟩
  clear cP x1 x2 q0 hW1
  go_upto_region 6 with fail
  generalize hW2 : w2.alloc (.cells #[.int .i64 0, .int .i64 0, .int .i64 0, .string ⟨#[]⟩] 23) = W2
  have hB3 : Below W1.heap.size W1 W2 := by rw [← hW2]; exact bt hB2 ((Below.refl _ w2).alloc (Nat.le_refl _) _)
  obtain ⟨y0, y1, y2, y3, yf⟩ := okC_cell (b := w2.heap.size) (t := 23) (w := W2) (by rw [← hW2]; exact heap_alloc_new w2 _)
  have hr2 : W2.heap[w.heap.size]? = some (.cells okC 23 (0, 0)) := (hB3.block _ (by have := HG.out.size; omega)).trans ((HG.out.block _ hAs (fun e => by have := Option.some.inj e; omega)).trans HRr.out)
  obtain ⟨z0, z1, z2, z3, zf⟩ := okC_cell hr2
  have HB3 : Hid (Below W1.heap.size W1 W2) := hB3
  have HR2 : Hid (W2.heap[w.heap.size]? = some (.cells okC 23 (0, 0))) := hr2
  clear hB3 hB2 hr2 yf hA hW2
  go_wp2
  have G := grown4 W2 w.heap.size (.int .i64 0) (.int .i64 0) (.int .i64 0) (.string ⟨#[]⟩)
  obtain ⟨t1, t2, t3⟩ := HS.out
  have b3 := HB3.out
  have s1 : StoreAt W2 s k b := (b3.block s (Array.getElem?_eq_some_iff.1 t1).1).trans t1
  have s2 : KnownAt W2 k d half := (b3.block k (Array.getElem?_eq_some_iff.1 t2).1).trans t2
  have s3 : SetIn W2 b l := t3.below b3
  have s4 : W2.heap[x]? = _ := (b3.block x (Array.getElem?_eq_some_iff.1 HK1.out).1).trans HK1.out
  have n1 : s ≠ w.heap.size := fun e => by
    unfold StoreAt at s1
    rw [e, HR2.out] at s1
    cases s1
  have n2 : k ≠ w.heap.size := fun e => by
    unfold KnownAt at s2
    rw [e, HR2.out] at s2
    cases s2
  have nt2 : NoText (fun i => i = w.heap.size) W2 := NoText.one HR2.out (fun s e => by cases e) (fun a n p e => by cases e)
  refine bodyPost_ret (v := okV) (by simp [results, Tryz.results45, go_sem, z0, z1, z2, z3]) rfl ⟨s, k, b, rfl, ?_, ?_, ?_, ?_, by omega, by omega, ?_⟩
  · exact (G.block x (Array.getElem?_eq_some_iff.1 s4).1 (fun e => by have := Option.some.inj e; omega)).trans s4
  · exact (G.block s (Array.getElem?_eq_some_iff.1 s1).1 (fun e => n1 (Option.some.inj e))).trans s1
  · exact (G.block k (Array.getElem?_eq_some_iff.1 s2).1 (fun e => n2 (Option.some.inj e))).trans s2
  · exact s3.chg (Chg.grown G (fun k e _ => (Option.some.inj e).symm)) nt2 hln
  · have hg := HG.out
    refine ⟨G.os.trans (b3.os.trans (hg.os.trans hB.os)), G.tape.trans (b3.tape.trans (hg.tape.trans hB.tape)), G.output.trans (b3.output.trans (hg.output.trans hB.output)), Nat.le_trans hB.size (Nat.le_trans hg.size (Nat.le_trans b3.size G.size)), fun j hj hne => ?_⟩
    have e1 := hB.size
    have e2 := hg.size
    have e3 := b3.size
    exact (G.block j (by omega) (fun e => by have := Option.some.inj e; omega)).trans ((b3.block j (by omega)).trans ((hg.block j (by omega) hne).trans (hB.block j hj)))
end Go.Proofs.YtgnfknjopafngaaGreatDoor
namespace Go.Proofs.YtgnfknjopafngaaGreatDoor
open Go.RowKit Go.Maps
abbrev emptyD (N : Nat) : M.Dk := { held := List.replicate N zeros, seen := List.replicate N zeros, late := [], left := -1, dead := false }
theorem DiskAt.is_empty {w : World} {d N : Nat} {hv sv : Value} (h : DiskAt w d hv sv (.slice none 0 0) (-1) false (List.replicate N zeros) (List.replicate N zeros)) : DiskIs w d hv sv (.slice none 0 0) (emptyD N) := ⟨h.blk, h.held, h.seen, LateIn.none _ _, h.apart⟩
set_option maxRecDepth 100000 in
set_option maxHeartbeats 8000000 in
theorem new_full (n : Int) (w : World) (hR : Ready w) : Calls Tryz.prog 20 #[.int .i64 n] w fun e w' => ∃ x d s k b hv sv, e = .returned (.tuple #[.pointer (some ⟨x, 0, none⟩), okV]) ∧ SessAt w' x d (.pointer (some ⟨s, 0, none⟩)) ∧ StoreAt w' s k b ∧ KnownAt w' k d 0 ∧ SetIn w' b [] ∧
    DiskIs w' d hv sv (.slice none 0 0) (emptyD (sectorsN n)) ∧ w.heap.size ≤ x ∧ w.heap.size ≤ d ∧ w.heap.size ≤ s ∧ w.heap.size ≤ k ∧ Below w.heap.size w w' := by
  obtain ⟨m1, m2⟩ := sectorsN_le n
  generalize hA : w.alloc (.cells okC 23) = A
  have hB : Below w.heap.size w A := by rw [← hA]; exact (Below.refl _ w).alloc (Nat.le_refl _) _
  go_enter Tryz.func20, Tryz.ntmps20
  go_upto_region 2 with fail
  have hmn : min (max n 16) 256 = ((sectorsN n : Nat) : Int) := by
    unfold sectorsN
    split
    · omega
    · split <;> omega
  rw [hmn]
  generalize hNn : sectorsN n = N at m1 m2 ⊢
  have HN : Hid (sectorsN n = N) := hNn
  clear hNn
  have hr : A.heap[w.heap.size]? = some (.cells okC 23 (0, 0)) := by rw [← hA]; exact heap_alloc_new w _
  have hAs : w.heap.size < A.heap.size := (Array.getElem?_eq_some_iff.1 hr).1
  have HRr : Hid (A.heap[w.heap.size]? = some (.cells okC 23 (0, 0))) := hr
  have HRd : Hid (Ready A) := hR.below hB
  have cD := newDisk_any N A m2
  clear hA hr hR hmn
  go_wp2_with fail
  refine cD.mono ?_
  rintro e w1 ⟨hv, sv, rfl, hD, hB1⟩
  have HD : Hid (DiskAt w1 A.heap.size hv sv (.slice none 0 0) (-1) false (List.replicate N zeros) (List.replicate N zeros)) := hD
  clear cD hD
  go_upto_region 3 with fail
  generalize hX : w1.alloc (.cells #[.pointer (some ⟨A.heap.size, 0, none⟩), .pointer none] 88) = X1
  have hBX : Below w1.heap.size w1 X1 := by rw [← hX]; exact (Below.refl _ w1).alloc (Nat.le_refl _) _
  have hXs : SessAt X1 w1.heap.size A.heap.size (.pointer none) := by rw [← hX]; exact heap_alloc_new w1 _
  have cO := open_any w1.heap.size A.heap.size N 0 (.pointer none) hv sv _ (emptyD N) [] X1 ((HRd.out.below hB1).below hBX) hXs (DiskAt.is_empty (HD.out.below hBX)) (M.lies_empty N m1) m1 m2 (by simp) M.apart_nil (by decide) (by simp) (by simp)
  have hXl : w1.heap.size < X1.heap.size := (Array.getElem?_eq_some_iff.1 hXs).1
  have HX1 : Hid (SessAt X1 w1.heap.size A.heap.size (.pointer none)) := hXs
  clear hX hXs
  go_wp2_with fail
  refine cO.mono ?_
  rintro e w2 ⟨s, k, b, rfl, t1, t2, t3, t4, hs8, hk8, hG⟩
  have HT : Hid (SessAt w2 w1.heap.size A.heap.size (.pointer (some ⟨s, 0, none⟩)) ∧ StoreAt w2 s k b ∧ KnownAt w2 k A.heap.size 0 ∧ SetIn w2 b [] ∧ X1.grownBy w2 (some w1.heap.size)) := ⟨t1, t2, t3, t4, hG⟩
  clear t1 t2 t3 t4 hG cO
  go_upto_region 4 with fail
  generalize hW4 : w2.alloc (.cells #[.int .i64 0, .int .i64 0, .int .i64 0, .string ⟨#[]⟩] 23) = W4
  have hB4 : Below w2.heap.size w2 W4 := by rw [← hW4]; exact (Below.refl _ w2).alloc (Nat.le_refl _) _
  obtain ⟨y0, y1, y2, y3, yf⟩ := okC_cell (b := w2.heap.size) (t := 23) (w := W4) (by rw [← hW4]; exact heap_alloc_new w2 _)
  obtain ⟨t1, t2, t3, t4, hG⟩ := HT.out
  have hs1 := hB1.size
  have hs2 := hBX.size
  have hs3 := hG.size
  have hr4 : W4.heap[w.heap.size]? = some (.cells okC 23 (0, 0)) := (hB4.block _ (by omega)).trans ((hG.block _ (by omega) (fun e => by have := Option.some.inj e; omega)).trans ((hBX.block _ (by omega)).trans ((hB1.block _ hAs).trans HRr.out)))
  obtain ⟨z0, z1, z2, z3, zf⟩ := okC_cell hr4
  have HE : Hid (SessAt W4 w1.heap.size A.heap.size (.pointer (some ⟨s, 0, none⟩)) ∧ StoreAt W4 s k b ∧ KnownAt W4 k A.heap.size 0 ∧ SetIn W4 b [] ∧ DiskAt W4 A.heap.size hv sv (.slice none 0 0) (-1) false (List.replicate N zeros) (List.replicate N zeros) ∧ Below w.heap.size w W4 ∧ W4.heap[w.heap.size]? = some (.cells okC 23 (0, 0)) ∧ w.heap.size < A.heap.size ∧ A.heap.size ≤ w1.heap.size) := by
    refine ⟨(hB4.block _ (Array.getElem?_eq_some_iff.1 t1).1).trans t1, (hB4.block _ (Array.getElem?_eq_some_iff.1 t2).1).trans t2, (hB4.block _ (Array.getElem?_eq_some_iff.1 t3).1).trans t3, t4.below hB4, ?_, ?_, hr4, hAs, hs1⟩
    · have d1 := HD.out.below hBX
      have hn8 : ∀ j, some w1.heap.size = some j → ∀ cur fz, X1.heap[j]? ≠ some (.cells cur 5 fz) := fun j hj cur fz hh => by
        cases hj
        have := HX1.out
        unfold SessAt at this
        rw [this] at hh
        cases hh
      have hl : ∀ v l, Secs w1 (A.heap.size + 1) v l → v.ownBlock = none ∨ v.ownBlock ≠ some w1.heap.size := fun v l h => by
        cases hq : v.ownBlock with
        | none => exact .inl rfl
        | some g => exact .inr (fun e => by have := h.lt g hq; cases e; omega)
      have d2 : DiskAt w2 A.heap.size hv sv (.slice none 0 0) (-1) false (List.replicate N zeros) (List.replicate N zeros) :=
        ⟨(hG.block _ (Array.getElem?_eq_some_iff.1 d1.blk).1 (fun e => by have := Option.some.inj e; have := (Array.getElem?_eq_some_iff.1 HD.out.blk).1; omega)).trans d1.blk, d1.held.kept hG hn8 (hl _ _ HD.out.held), d1.seen.kept hG hn8 (hl _ _ HD.out.seen), d1.apart⟩
      exact d2.below hB4
    · refine ⟨hB4.os.trans (hG.os.trans (hBX.os.trans (hB1.os.trans hB.os))), hB4.tape.trans (hG.tape.trans (hBX.tape.trans (hB1.tape.trans hB.tape))), hB4.output.trans (hG.output.trans (hBX.output.trans (hB1.output.trans hB.output))), by have := hB.size; have := hB4.size; omega, fun j hj => ?_⟩
      have := hB.size
      exact (hB4.block j (by omega)).trans ((hG.block j (by omega) (fun e => by have := Option.some.inj e; omega)).trans ((hBX.block j (by omega)).trans ((hB1.block j (by omega)).trans (hB.block j hj))))
  clear hr4 hW4 hB4 t1 t2 t3 t4 hG hs1 hs2 hs3 yf HT HD hBX hB1 hB
  go_region
  go_wp2
  have G0 := grown4 W4 w.heap.size (.int .i64 0) (.int .i64 0) (.int .i64 0) (.string ⟨#[]⟩)
  have G : W4.grownBy (((((W4.setCell ⟨w.heap.size, 0, none⟩ (.int .i64 0)).setCell ⟨w.heap.size, 1, none⟩ (.int .i64 0)).setCell ⟨w.heap.size, 2, none⟩ (.int .i64 0)).setCell ⟨w.heap.size, 3, none⟩ (.string ⟨#[]⟩)).drew) (some w.heap.size) := ⟨G0.os, G0.tape, G0.output, G0.size, G0.block⟩
  obtain ⟨s4, s1, s2, s3, s5, s6, s7, s8, s9⟩ := HE.out
  have n1 : s ≠ w.heap.size := fun e => by
    unfold StoreAt at s1
    rw [e, s7] at s1
    cases s1
  have n2 : k ≠ w.heap.size := fun e => by
    unfold KnownAt at s2
    rw [e, s7] at s2
    cases s2
  have n3 : b ≠ w.heap.size := fun e => by
    obtain ⟨es, c, hh⟩ := s3.choose_spec.1.block?
    rw [e, s7] at hh
    cases hh
  refine bodyPost_ret (v := .tuple #[.pointer (some ⟨w1.heap.size, 0, none⟩), okV]) (by simp [results, Tryz.results20, go_sem, z0, z1, z2, z3]) rfl ⟨_, A.heap.size, s, k, b, hv, sv, rfl, ?_, ?_, ?_, ?_, ?_, by omega, by omega, by omega, by omega, ?_⟩
  · exact (G.block _ (Array.getElem?_eq_some_iff.1 s4).1 (fun e => by have := Option.some.inj e; omega)).trans s4
  · exact (G.block s (Array.getElem?_eq_some_iff.1 s1).1 (fun e => n1 (Option.some.inj e))).trans s1
  · exact (G.block k (Array.getElem?_eq_some_iff.1 s2).1 (fun e => n2 (Option.some.inj e))).trans s2
  · exact s3.kept0 G (fun e => n3 (Option.some.inj e))
  · rw [HN.out]
    exact DiskAt.is_empty <| s5.kept G s8 (fun cur fz hh => by rw [s7] at hh; cases hh)
  · exact s6.grown G s6.size (fun j hj => by cases hj; exact Nat.le_refl _)
end Go.Proofs.YtgnfknjopafngaaGreatDoor
namespace Go.Proofs.YtgnfknjopafngaaGreatDoor
open Go.RowKit Go.Maps
theorem SessAt.cell0 {w : World} {x d : Nat} {sv : Value} (h : SessAt w x d sv) : w.cell? ⟨x, 0, none⟩ = some (.pointer (some ⟨d, 0, none⟩)) := (cell_of_row w _ 0 _ _ (0, 0) h).trans rfl
theorem SessAt.chg {F : Nat → Prop} {w w' : World} {x d : Nat} {sv : Value} (h : SessAt w x d sv) (hc : Chg F w w') (hn : ¬ F x) : SessAt w' x d sv := (hc.block x (Array.getElem?_eq_some_iff.1 h).1 hn).trans h
theorem SessAt.off {w : World} {x d : Nat} {s0 hv sv lv : Value} {D : M.Dk} (h : SessAt w x d s0) (hD : DiskIs w d hv sv lv D) : ¬ dFoot d hv sv lv x := by
  unfold SessAt at h
  rintro (rfl | e | e | e)
  · rw [hD.blk] at h; cases h
  · obtain ⟨c, hc⟩ := hD.held.type x e; rw [hc] at h; cases h
  · obtain ⟨c, hc⟩ := hD.seen.type x e; rw [hc] at h; cases h
  · obtain ⟨c, hc⟩ := hD.late.type x e; rw [hc] at h; cases h
theorem Ready.chg {F : Nat → Prop} {w w' : World} (h : Ready w) (hc : Chg F w w') (hF : ∀ k, F k → 1 < k) : Ready w' := by
  obtain ⟨h1, m, h2⟩ := h
  exact ⟨hc.cell h1 (fun f => by have h3 : 1 < 0 := hF 0 f; omega), m, hc.cell h2 (fun f => Nat.lt_irrefl _ (hF _ f))⟩
end Go.Proofs.YtgnfknjopafngaaGreatDoor
namespace Go.Proofs.YtgnfknjopafngaaGreatDoor
open Go.RowKit Go.Maps
theorem bars_iff {l : List M.Pk} {p : M.Pk} : M.Bars l p ↔ ∃ c ∈ p.bars, c.name ≠ p.name ∧ (l.any fun q => M.fitsS c q) = true := by
  have hfit : ∀ {c : M.Ch} {q : M.Pk}, M.fitsS c q = true → c.name = q.name := fun {c q} h => by
    unfold M.fitsS at h
    split at h
    · assumption
    · cases h
  unfold M.Bars M.any1S
  constructor
  · rintro ⟨q, hq, hne, h⟩
    obtain ⟨c, hc, h⟩ := List.any_eq_true.1 h
    simp only [List.any_cons, List.any_nil, Bool.or_false] at h
    exact ⟨c, hc, by rw [hfit h]; exact hne, List.any_eq_true.2 ⟨q, hq, h⟩⟩
  · rintro ⟨c, hc, hne, h⟩
    obtain ⟨q, hq, h⟩ := List.any_eq_true.1 h
    exact ⟨q, hq, by rw [← hfit h]; exact hne, List.any_eq_true.2 ⟨c, hc, by simpa using h⟩⟩
set_option maxRecDepth 100000 in
set_option maxHeartbeats 8000000 in
theorem firstBarring_any (b : Nat) (l : List M.Pk) (w : World) (hl : SetIn w b l) (hn : l.length ≤ 1000000) (hs : ∀ p ∈ l, ReadP p) :
    Calls Tryz.prog 236 #[.map (some b)] w fun e w' => ∃ T : ByteArray, e = .returned (.string T) ∧ T.data.toList = M.barringS l ∧ Below w.heap.size w w' := by
  have cN := fun wx (hb : Below w.heap.size w wx) => names_any b l wx (hl.below hb) hn
  have HL : Hid (SetIn w b l) := hl
  have HA : Hid (M.Apart l) := hl.apart
  have HS : Hid (∀ p ∈ l, ReadP p) := hs
  have HMin : Hid (M.IsMin (fun x => ∃ p ∈ l, M.Bars l p ∧ x = p.name) (M.barringS l)) := M.barring_min hl.apart (fun p hp => (hs p hp).name)
  have HRL : Hid ((M.sortN (l.map M.Pk.name)).length = l.length) := by show _ = _; rw [(M.sortN_perm _).length_eq, List.length_map]
  generalize hr : M.sortN (l.map M.Pk.name) = r at HRL
  have HR : Hid (M.sortN (l.map M.Pk.name) = r) := hr
  clear hl hs hr
  go_enter Tryz.func236, Tryz.ntmps236
  go_wp2_with fail
  refine (cN _ (Below.refl _ _)).mono ?_
  rintro e w1 ⟨v, rfl, hrow, hB1⟩
  obtain ⟨a1, c1, e1⟩ := own_form hrow
  subst e1
  have HRow : Hid (RowIn w1 0 w1.heap.size (.slice a1 l.length c1) l.length (nmCells r)) := by rw [← HR.out]; exact (RowIn.own hrow).wide (Nat.zero_le _) (Nat.le_refl _)
  clear cN hrow
  go_wp2
  go_loopw [4, 6, 10] (fun _ _ i wr => ∃ n : Nat, i = .int .i64 n ∧ n ≤ l.length ∧ Below w1.heap.size w1 wr ∧ Hid (∀ q ∈ l, q.name ∈ r.take n → ¬ M.Bars l q)) (fun _ _ i _ => l.length - (intOf i).toNat)
  case atStart => exact ⟨0, rfl, Nat.zero_le _, Below.refl _ _, fun q _ hq => by simp at hq⟩
  case round =>
    obtain ⟨n, rfl, hn', hBr, HQ⟩ := hrel
    by_cases hlt : n < l.length
    · have hnr : n < r.length := by rw [HRL.out]; exact hlt
      obtain ⟨p, hp, hpn⟩ : ∃ p ∈ l, p.name = r[n] := by
        obtain ⟨p, hp, e⟩ := List.mem_map.1 ((M.sortN_perm (l.map M.Pk.name)).mem_iff.1 (by rw [HR.out]; exact List.getElem_mem hnr))
        exact ⟨p, hp, e⟩
      obtain ⟨g, rfl, hg, hcap, hc⟩ := HRow.out.cellAt (by omega)
      have c0 : wr.cell? ⟨g, n, none⟩ = some (.string ⟨p.name.toArray⟩) := (hBr.cell (p := ⟨g, n, none⟩) hg).trans (hc n _ (by unfold nmCells; rw [List.getElem?_map, List.getElem?_eq_getElem hnr, hpn]; rfl))
      obtain ⟨Y, hY⟩ : ∃ Y : ByteArray, Y = ⟨p.name.toArray⟩ := ⟨_, rfl⟩
      rw [← hY] at c0
      have hYd : Y.data.toList = p.name := by rw [hY]
      have hYs : Y.size ≤ maxLen := by have := (HS.out p hp).short.name; rw [size_of hYd]; unfold maxLen; omega
      have HYd : Hid (Y.data.toList = p.name) := hYd
      have hnn := (HS.out p hp).short.bars.1
      have HSp : Hid (ReadP p) := HS.out p hp
      have HNm : Hid (r[n]? = some p.name) := by show _ = _; rw [List.getElem?_eq_getElem hnr, hpn]
      obtain ⟨f, hm, hv⟩ := HL.out.below (bt hB1 hBr)
      obtain ⟨nv, bv, fv, ev, hN1, hN2, hN3⟩ := hv p hp
      obtain ⟨an, cn, en⟩ := hN2.form
      subst en
      have hr1 : (Instr.lookup 135 (.map (some b)) (.string Y) false).run Tryz.prog wr = .ok (.agg #[.string ⟨p.name.toArray⟩, .string ⟨p.ver.toArray⟩, nv, .slice an p.bars.length cn, fv]) wr := by
        rw [hm.look Tryz.underlying9 setMap (zeroPk_run wr) hYs, hYd, (look_mem hm.keys).2 (List.mem_map.2 ⟨p, hp, rfl⟩), Option.getD_some, ev]
      have HN : Hid (RowIn wr 0 wr.heap.size (.slice an p.bars.length cn) p.bars.length (chsCells p.bars)) := hN2
      clear hm hv ev hN1 hN2 hN3 hY hYd hc hpn
      obtain ⟨W0, hW0⟩ : ∃ W, W = wr := ⟨_, rfl⟩
      subst hW0
      have hfd := field_bars
      go_wp2
      clear hfd
      go_loopw [6, 19] (fun _ i wr => ∃ j : Nat, i = .int .i64 j ∧ j ≤ p.bars.length ∧ Below W0.heap.size W0 wr ∧ Hid (∀ c ∈ p.bars.take j, ¬ (c.name ≠ p.name ∧ (l.any fun q => M.fitsS c q) = true))) (fun _ i _ => p.bars.length - (intOf i).toNat)
      case atStart => exact ⟨0, rfl, Nat.zero_le _, Below.refl _ _, fun c hc => by simp at hc⟩
      case round =>
        obtain ⟨j, rfl, hj', hBj, HC⟩ := hrel
        by_cases hlj : j < p.bars.length
        · obtain ⟨bg, rfl, hbg, hcapg, hcg⟩ := HN.out.cellAt (by omega)
          obtain ⟨k0, k1, k2⟩ := ch_cell hlj
          obtain ⟨X, hX⟩ : ∃ X : ByteArray, X = ⟨p.bars[j].name.toArray⟩ := ⟨_, rfl⟩
          have q0 : wr.cell? ⟨bg, j * 3, none⟩ = some (.string X) := by rw [hX]; exact (hBj.cell (p := ⟨bg, j * 3, none⟩) hbg).trans (hcg _ _ k0)
          have q1 : wr.cell? ⟨bg, j * 3 + 1, none⟩ = some (.string ⟨p.bars[j].sign.toArray⟩) := (hBj.cell (p := ⟨bg, j * 3 + 1, none⟩) hbg).trans (hcg _ _ k1)
          have q2 : wr.cell? ⟨bg, j * 3 + 2, none⟩ = some (.string ⟨p.bars[j].ver.toArray⟩) := (hBj.cell (p := ⟨bg, j * 3 + 2, none⟩) hbg).trans (hcg _ _ k2)
          have HX : Hid (X.data.toList = p.bars[j].name) := by show _ = _; rw [hX]
          have hsc := HSp.out.short.bars.2 _ (List.getElem_mem hlj)
          have hBw : Below w.heap.size w wr := bt hB1 (bt hBr hBj)
          have cH := fun wx (hb : Below wr.heap.size wr wx) => has_any b l p.bars[j] wx (HL.out.below (bt hBw hb)) (fun q hq => (HS.out q hq).smallQ.1) (HSp.out.good.bars _ (List.getElem_mem hlj)) (by omega) (by omega)
          rw [← hX] at cH
          have HBa : Hid (Below wr.heap.size wr (wr.alloc (.cells #[.string X, .string ⟨p.bars[j].sign.toArray⟩, .string ⟨p.bars[j].ver.toArray⟩] 156))) := (Below.refl _ wr).alloc (Nat.le_refl _) _
          clear hcg k0 k1 k2 hsc hX
          by_cases hm : (X.toList == Y.toList) = true
          · have HC2 : Hid (∀ c ∈ p.bars.take (j + 1), ¬ (c.name ≠ p.name ∧ (l.any fun q => M.fitsS c q) = true)) := fun c hc => by
              rw [List.take_succ_eq_append_getElem hlj] at hc
              rcases List.mem_append.1 hc with hc | hc
              · exact HC.out c hc
              · simp at hc
                subst hc
                rintro ⟨hne, _⟩
                rw [Lib.toList_data, Lib.toList_data, beq_iff_eq, HX.out, HYd.out] at hm
                exact hne hm
            have hB7 : Below W0.heap.size W0 (wr.alloc (.cells #[.string X, .string ⟨p.bars[j].sign.toArray⟩, .string ⟨p.bars[j].ver.toArray⟩] 156)) := bt hBj HBa.out
            clear cH
            go_wp2
            go_roundw
            case rel => exact ⟨j + 1, by go_num, by omega, hB7, HC2⟩
            case measure => simp [intOf]; omega
          · replace hm : (X.toList == Y.toList) = false := by simpa using hm
            go_wp2_with fail
            refine (cH _ HBa.out).mono ?_
            rintro e w5 ⟨rfl, hB5⟩
            have hB6 : Below wr.heap.size wr w5 := bt HBa.out hB5
            have HNe : Hid (p.bars[j].name ≠ p.name) := by
              rw [Lib.toList_data, Lib.toList_data, beq_eq_false_iff_ne, HX.out, HYd.out] at hm
              exact hm
            clear cH HBa hB5
            cases hB : (l.any fun q => M.fitsS p.bars[j] q) with
            | true =>
              have HLk : Hid (M.barringS l = p.name) := first_name HA.out HMin.out hp (by rw [HR.out]; exact HNm.out) (bars_iff.2 ⟨_, List.getElem_mem hlj, HNe.out, hB⟩) (by rw [HR.out]; exact HQ.out)
              have hB7 : Below w.heap.size w w5 := bt hBw hB6
              clear hB
              go_wp2
              go_ret
              exact ⟨Y, rfl, by rw [HLk.out]; exact HYd.out, hB7⟩
            | false =>
              have HC2 : Hid (∀ c ∈ p.bars.take (j + 1), ¬ (c.name ≠ p.name ∧ (l.any fun q => M.fitsS c q) = true)) := fun c hc => by
                rw [List.take_succ_eq_append_getElem hlj] at hc
                rcases List.mem_append.1 hc with hc | hc
                · exact HC.out c hc
                · simp at hc
                  subst hc
                  rintro ⟨_, h⟩
                  rw [hB] at h
                  cases h
              have hB7 : Below W0.heap.size W0 w5 := bt hBj hB6
              clear hB
              go_wp2
              go_roundw
              case rel => exact ⟨j + 1, by go_num, by omega, hB7, HC2⟩
              case measure => simp [intOf]; omega
        · have hmm : j = p.bars.length := by omega
          have HQ2 : Hid (∀ q ∈ l, q.name ∈ r.take (n + 1) → ¬ M.Bars l q) := fun q hq hqn => by
            rw [List.take_succ_eq_append_getElem hnr] at hqn
            rcases List.mem_append.1 hqn with hqn | hqn
            · exact HQ.out q hq hqn
            · simp at hqn
              have e : q = p := HA.out.eq hq hp (by
                have := HNm.out
                rw [List.getElem?_eq_getElem hnr] at this
                rw [hqn]
                exact Option.some.inj this)
              subst e
              intro hb
              obtain ⟨c, hc, h⟩ := bars_iff.1 hb
              exact HC.out c (by rw [hmm, List.take_length]; exact hc) h
          have hB7 : Below w1.heap.size w1 wr := bt hBr hBj
          clear hmm
          go_wp2
          go_roundw
          case rel => exact ⟨n + 1, by go_num, by omega, hB7, HQ2⟩
          case measure => simp [intOf]; omega
    · have hnn : n = l.length := by omega
      have HE : Hid (M.barringS l = []) := by
        refine no_name HMin.out (fun q hq hqn => HQ.out q hq ?_)
        rw [hnn, ← HRL.out, List.take_length, ← HR.out]
        exact hqn
      have hBw : Below w.heap.size w wr := bt hB1 hBr
      clear hnn
      go_wp2
      go_ret
      exact ⟨⟨#[]⟩, rfl, by rw [HE.out], hBw⟩
end Go.Proofs.YtgnfknjopafngaaGreatDoor
