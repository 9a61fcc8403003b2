import Derived.Test.YtgnfknjopafngaaGreatDoorKkac
import Derived.Test.YtgnfknjopafngaaGreatDoorKke
namespace Go.Proofs.YtgnfknjopafngaaGreatDoor
open Go.RowKit Go.Maps
def NoText (F : Nat → Prop) (w : World) : Prop := ∀ k, F k → (∃ c t fz, w.heap[k]? = some (.cells c t fz) ∧ t ≠ 30) ∧ (StrBlk w k ∨ ∀ s, w.cell? ⟨k, 0, none⟩ ≠ some (.string s)) ∧ (∀ a n c, w.cell? ⟨k, 0, none⟩ = some (.slice a n c) → 16 ≤ n)
theorem RowIn.chg {F : Nat → Prop} {w w' : World} {lo hi n : Nat} {v : Value} {xs : List Value} (h : RowIn w lo hi v n xs) (hc : Chg F w w') (h0 : xs = [] → n = 0) (hF : ∀ g, (∀ u, xs[0]? = some u → w.cell? ⟨g, 0, none⟩ = some u) → (StrBlk w g → xs.length = n) → xs ≠ [] → ¬ F g) (hh : hi ≤ w.heap.size) : RowIn w' lo hi v n xs := by
  obtain h | ⟨g, cap, h1, h2, h3, h4, h5⟩ := h
  · exact .inl h
  · refine .inr ⟨g, cap, h1, h2, h3, ⟨h4.1, fun ⟨c, f, e⟩ => ?_⟩, fun j u hu => ?_⟩
    · by_cases hne : xs = []
      · rw [h0 hne, hne, List.length_nil]
      · exact h4.2 ⟨c, f, (hc.block g (by omega) (hF g (fun u hu => h5 0 u hu) h4.2 hne)).symm.trans e⟩
    · have hne : xs ≠ [] := fun e => by rw [e] at hu; cases hu
      exact hc.cell (h5 j u hu) (hF g (fun u hu => h5 0 u hu) h4.2 hne)
theorem RowIn.chs {F : Nat → Prop} {w w' : World} {lo hi : Nat} {v : Value} {l : List M.Ch} (h : RowIn w lo hi v l.length (chsCells l)) (hc : Chg F w w') (hF : NoText F w) (hh : hi ≤ w.heap.size) : RowIn w' lo hi v l.length (chsCells l) := by
  refine h.chg hc (fun e => ?_) (fun g hg ht hne f => ?_) hh
  · cases l with
    | nil => rfl
    | cons c l => cases e
  · cases l with
    | nil => exact hne rfl
    | cons c l =>
      rcases (hF g f).2.1 with k | k
      · have := ht k
        rw [chsCells_len] at this
        simp at this
        omega
      · exact k _ (hg (strV c.name) rfl)
theorem RowIn.fls {F : Nat → Prop} {w w' : World} {lo hi : Nat} {v : Value} {l : List M.Fl} (h : RowIn w lo hi v l.length (flsCells l)) (hc : Chg F w w') (hF : NoText F w) (hh : hi ≤ w.heap.size) : RowIn w' lo hi v l.length (flsCells l) := by
  refine h.chg hc (fun e => ?_) (fun g hg ht hne f => ?_) hh
  · cases l with
    | nil => rfl
    | cons c l => cases e
  · cases l with
    | nil => exact hne rfl
    | cons c l =>
      rcases (hF g f).2.1 with k | k
      · have := ht k
        rw [flsCells_len] at this
        simp at this
        omega
      · exact k _ (hg (strV c.path) rfl)
theorem NeedsIn.chg {F : Nat → Prop} {w w' : World} {lo hi : Nat} {v : Value} {l : List (List M.Ch)} (h : NeedsIn w lo hi v l) (hc : Chg F w w') (hF : NoText F w) (hh : hi ≤ w.heap.size) (hl : ∀ x ∈ l, x.length ≤ 15) : NeedsIn w' lo hi v l := by
  obtain ⟨vs, h1, h2, h3⟩ := h
  refine ⟨vs, h1.chg hc (fun e => by rw [e] at h2; exact h2.symm) (fun g hg _ hne f => ?_) hh, h2, fun i x hx => by obtain ⟨u, a, b⟩ := h3 i x hx; exact ⟨u, a, b.chs hc hF hh⟩⟩
  cases l with
  | nil => exact hne (List.length_eq_zero_iff.1 h2)
  | cons x l =>
    obtain ⟨u, a, b⟩ := h3 0 x rfl
    obtain ⟨p, c, rfl⟩ := b.form
    have := (hF g f).2.2 _ _ _ (hg _ a)
    have := hl x (by simp)
    omega
theorem PkVal.chg {F : Nat → Prop} {w w' : World} {p : M.Pk} {v : Value} (h : PkVal w p v) (hc : Chg F w w') (hF : NoText F w) (hl : ∀ x ∈ p.needs, x.length ≤ 15) : PkVal w' p v := by
  obtain ⟨nv, bv, fv, h1, h2, h3, h4⟩ := h
  exact ⟨nv, bv, fv, h1, (h2.chg hc hF (Nat.le_refl _) hl).wide (Nat.le_refl _) hc.size, (h3.chs hc hF (Nat.le_refl _)).wide (Nat.le_refl _) hc.size, (h4.fls hc hF (Nat.le_refl _)).wide (Nat.le_refl _) hc.size⟩
theorem PkTy.chg {F : Nat → Prop} {w w' : World} {v : Value} {l : List M.Pk} (h : PkTy w v l) (hc : Chg F w w') (hF : NoText F w) : PkTy w' v l := fun h0 g o n c e => by
  obtain ⟨cur, fz, h1⟩ := h h0 g o n c e
  refine ⟨cur, fz, (hc.block g (Array.getElem?_eq_some_iff.1 h1).1 (fun f => ?_)).trans h1⟩
  obtain ⟨c2, t, f2, e2, hn⟩ := (hF g f).1
  rw [h1] at e2
  cases e2
  exact hn rfl
theorem PksIn.chg {F : Nat → Prop} {w w' : World} {v : Value} {l : List M.Pk} (h : PksIn w v l) (ht : PkTy w v l) (hc : Chg F w w') (hF : NoText F w) (hl : ∀ p ∈ l, ∀ x ∈ p.needs, x.length ≤ 15) : PksIn w' v l := by
  rcases h with h | ⟨g, off, cap, rfl, h2, h3, h4⟩
  · exact .inl h
  · by_cases h0 : l = []
    · subst h0
      exact .inl ⟨rfl, _, _, rfl⟩
    · obtain ⟨cur, fz, hk⟩ := ht h0 g off _ _ rfl
      have hng : ¬ F g := fun f => by
        obtain ⟨c2, t, f2, e2, hn⟩ := (hF g f).1
        rw [hk] at e2
        cases e2
        exact hn rfl
      refine .inr ⟨g, off, cap, rfl, h2, Nat.lt_of_lt_of_le h3 hc.size, fun i p hp => ?_⟩
      obtain ⟨nv, bv, fv, c0, c1, c2, c3, c4, c5, c6, c7⟩ := h4 i p hp
      have hlp := hl p (List.mem_of_getElem? hp)
      exact ⟨nv, bv, fv, hc.cell c0 hng, hc.cell c1 hng, hc.cell c2 hng, hc.cell c3 hng, hc.cell c4 hng, (c5.chg hc hF (Nat.le_refl _) hlp).wide (Nat.le_refl _) hc.size, (c6.chs hc hF (Nat.le_refl _)).wide (Nat.le_refl _) hc.size, (c7.fls hc hF (Nat.le_refl _)).wide (Nat.le_refl _) hc.size⟩
theorem SetIn.chg {F : Nat → Prop} {w w' : World} {b : Nat} {l : List M.Pk} (h : SetIn w b l) (hc : Chg F w w') (hF : NoText F w) (hl : ∀ p ∈ l, ∀ x ∈ p.needs, x.length ≤ 15) : SetIn w' b l := by
  obtain ⟨f, h1, h2⟩ := h
  refine ⟨f, h1.block (hc.block b h1.lt (fun k => ?_)), fun p hp => (h2 p hp).chg hc hF (hl p hp)⟩
  obtain ⟨c, t, fz, e, _⟩ := (hF b k).1
  obtain ⟨n, es, ⟨xs, clock, h0, _⟩, _⟩ := h1
  rw [h0] at e
  cases e
theorem NoText.or {F G : Nat → Prop} {w : World} (h : NoText F w) (k : NoText G w) : NoText (fun i => F i ∨ G i) w := fun i hi => hi.elim (h i) (k i)
theorem NoText.one {w : World} {k : Nat} {c : Array Value} {t : TypeId} {fz : Nat × Nat} (h : w.heap[k]? = some (.cells c t fz)) (h1 : ∀ s, c[0]? ≠ some (.string s)) (h2 : ∀ a n p, c[0]? = some (.slice a n p) → 16 ≤ n) (h3 : t ≠ 30 := by decide) : NoText (fun i => i = k) w := by
  rintro i rfl
  have e : w.cell? ⟨i, 0, none⟩ = c[0]? := cell_of_row w _ 0 _ _ _ h
  exact ⟨⟨c, t, fz, h, h3⟩, .inr fun s => by rw [e]; exact h1 s, fun a n p => by rw [e]; exact h2 a n p⟩
theorem NoText.strs {w : World} {base n : Nat} {v : Value} {xs : List Value} (h : w.ownsRow base 9 1 v n xs) (hx : ∀ u ∈ xs, ∃ s, u = .string s) (hn : 0 < n) : NoText (fun k => v.ownBlock = some k) w := by
  intro k hk
  obtain ⟨hl, ⟨rfl, _⟩ | ⟨g, cap, cur, rfl, _, hg, hnc, _, hcs, ht⟩⟩ := h
  · cases hk
  · have e : g = k := Option.some.inj hk
    subst e
    refine ⟨⟨_, _, _, hg, by decide⟩, .inl ⟨_, _, hg⟩, fun a m c e => ?_⟩
    rw [show w.cell? ⟨g, 0, none⟩ = cur[0]? from cell_of_row w _ 0 _ _ _ hg] at e
    have h0 : cur.toList[0]? = xs[0]? := by rw [← ht, List.getElem?_take_of_lt (by omega)]
    rw [Array.getElem?_toList] at h0
    rw [h0] at e
    obtain ⟨s, e2⟩ := hx _ (List.mem_of_getElem? e)
    cases e2
theorem Secs.noText {w : World} {base : Nat} {v : Value} {l : List (List UInt8)} (h : Secs w base v l) (hl : 0 < l.length) : NoText (fun k => v.ownBlock = some k) w := by
  intro k hk
  obtain ⟨cur, hc⟩ := h.type k hk
  obtain ⟨b, c, g, cg, rfl, _, _, _, h5, _⟩ := h.at hl
  have e : b = k := Option.some.inj hk
  subst e
  refine ⟨⟨_, _, _, hc, by decide⟩, .inr fun s => (by rw [h5]; intro e; cases e), fun a n p e => ?_⟩
  rw [h5] at e
  cases e
  omega
theorem LateIn.noText {w : World} {base : Nat} {v : Value} {l : List (Nat × List UInt8)} (h : LateIn w base v l) : NoText (fun k => v.ownBlock = some k) w := by
  intro k hk
  obtain ⟨cur, hc⟩ := h.type k hk
  have hl : 0 < l.length := by
    cases l with
    | nil => have := h.1 rfl; rw [this] at hk; cases hk
    | cons a l => simp
  obtain ⟨b, c, g, cg, rfl, _, _, _, h5, _⟩ := late_at h hl
  have e : b = k := Option.some.inj hk
  subst e
  rw [Nat.zero_mul] at h5
  refine ⟨⟨_, _, _, hc, by decide⟩, .inr fun s => (by rw [h5]; intro e; cases e), fun a n p e => ?_⟩
  rw [h5] at e
  cases e
theorem DiskIs.noText {w : World} {d : Nat} {hv sv lv : Value} {D : M.Dk} (h : DiskIs w d hv sv lv D) (h1 : 16 ≤ D.held.length) (h2 : 16 ≤ D.seen.length) : NoText (dFoot d hv sv lv) w := by
  obtain ⟨b, c, g, cg, ev, _⟩ := h.held.at (n := 0) (by omega)
  have hd : NoText (fun i => i = d) w := NoText.one h.blk (fun s e => by subst ev; cases e) (fun a n p e => by subst ev; cases e; exact h1)
  rintro k (hk | hk | hk | hk)
  · exact hd k hk
  · exact h.held.noText (by omega) k hk
  · exact h.seen.noText (by omega) k hk
  · exact h.late.noText k hk
end Go.Proofs.YtgnfknjopafngaaGreatDoor
namespace Go.Proofs.YtgnfknjopafngaaGreatDoor
open Go.RowKit Go.Maps
set_option maxRecDepth 100000 in
set_option maxHeartbeats 400000 in
theorem open_any (x d n half : Nat) (s0 hv sv lv : Value) (D : M.Dk) (l : List M.Pk) (w : World) (hR : Ready w) (hx : SessAt w x d s0) (h : DiskIs w d hv sv lv D) (hl : M.Lies D.seen n half (M.packed l)) (h1 : 16 ≤ n) (h2 : n ≤ 256) (hb : ∀ p ∈ l, M.Back p) (ha : M.Apart l) (hs : M.sizeS l ≤ 8192) (hn : l.length ≤ 1000) (hln : ∀ p ∈ l, ∀ y ∈ p.needs, y.length ≤ 15) :
    Calls Tryz.prog 45 #[.pointer (some ⟨x, 0, none⟩)] w fun e w' => ∃ s k b, e = .returned okV ∧ SessAt w' x d (.pointer (some ⟨s, 0, none⟩)) ∧ StoreAt w' s k b ∧ KnownAt w' k d half ∧ SetIn w' b l ∧ w.heap.size ≤ s ∧ w.heap.size ≤ k ∧ w.grownBy w' (some x) := by
  generalize hA : w.alloc (.cells okC 23) = A
  have hB : Below w.heap.size w A := by rw [← hA]; exact (Below.refl _ w).alloc (Nat.le_refl _) _
  have hr : A.heap[w.heap.size]? = some (.cells okC 23 (0, 0)) := by rw [← hA]; exact heap_alloc_new w _
  have hxl : x < w.heap.size := (Array.getElem?_eq_some_iff.1 hx).1
  have hxA : A.heap[x]? = _ := (hB.block x hxl).trans hx
  have q0 : A.cell? ⟨x, 0, none⟩ = some (.pointer (some ⟨d, 0, none⟩)) := (cell_of_row A _ 0 _ _ (0, 0) hxA).trans rfl
  have cO := pOpen_any d n half hv sv lv D l A (hR.below hB) (h.below hB) hl h1 h2 hb ha hs hn
  have cP := parts_nil
  have HX : Hid (A.heap[x]? = some (.cells #[.pointer (some ⟨d, 0, none⟩), s0] 88 (0, 0))) := hxA
  have HRr : Hid (A.heap[w.heap.size]? = some (.cells okC 23 (0, 0))) := hr
  have hAs : w.heap.size < A.heap.size := (Array.getElem?_eq_some_iff.1 hr).1
  clear hR h hx hxA hr hl
  go_enter Tryz.func45, Tryz.ntmps45
  go_wp2_with fail
  refine cO.mono ?_
  rintro e w1 ⟨s, k, b, rfl, hS, hK, hT, hsl, hkl, hB1⟩
  have hx1 : w1.heap[x]? = some (.cells #[.pointer (some ⟨d, 0, none⟩), s0] 88 (0, 0)) := (hB1.block x (by omega)).trans HX.out
  have x1 : w1.cell? ⟨x, 1, none⟩ = some s0 := (cell_of_row w1 _ 1 _ _ (0, 0) hx1).trans rfl
  have x2 : w1.frozen? ⟨x, 1, none⟩ = false := frozen_of_row w1 _ _ _ _ hx1
  generalize hW1 : w1.setCell ⟨x, 1, none⟩ (.pointer (some ⟨s, 0, none⟩)) = W1
  have g1 : w1.grownBy W1 (some x) := by rw [← hW1]; exact ⟨rfl, rfl, rfl, by simp, fun j _ hj => Below.heap_setCell _ _ _ _ (fun e => hj (by rw [e]))⟩
  have k1 : W1.heap[x]? = some (.cells #[.pointer (some ⟨d, 0, none⟩), .pointer (some ⟨s, 0, none⟩)] 88 (0, 0)) := by rw [← hW1]; exact heap_setCell_same w1 x 1 _ _ _ hx1
  have hb1 : b < w1.heap.size := hT.lt
  have nt1 : NoText (fun i => i = x) w1 := NoText.one hx1 (fun s e => by cases e) (fun a n p e => by cases e)
  have hkx : k ≠ x := by
    intro e
    rw [e] at hK
    unfold KnownAt at hK
    rw [hx1] at hK
    cases hK
  have HS : Hid (StoreAt W1 s k b ∧ KnownAt W1 k d half ∧ SetIn W1 b l) :=
    ⟨(g1.block s (Array.getElem?_eq_some_iff.1 hS).1 (fun e => by have := Option.some.inj e; omega)).trans hS, (g1.block k (Array.getElem?_eq_some_iff.1 hK).1 (fun e => hkx (Option.some.inj e))).trans hK, hT.chg (Chg.grown g1 (fun k e _ => (Option.some.inj e).symm)) nt1 hln⟩
  have HG : Hid (A.grownBy W1 (some x)) := ⟨g1.os.trans hB1.os, g1.tape.trans hB1.tape, g1.output.trans hB1.output, Nat.le_trans hB1.size g1.size, fun j hj hne => (g1.block j (Nat.lt_of_lt_of_le hj hB1.size) hne).trans (hB1.block j hj)⟩
  have HK1 : Hid (W1.heap[x]? = some (.cells #[.pointer (some ⟨d, 0, none⟩), .pointer (some ⟨s, 0, none⟩)] 88 (0, 0))) := k1
  clear hS hK hT cO hx1 k1 g1 nt1 hkx hb1 hB1
  go_wp2_with fail
  refine (cP W1).mono ?_
  rintro e w2 ⟨rfl, hB2⟩
  clear cP x1 x2 q0 hW1
  go_upto_region 6 with fail
  generalize hW2 : w2.alloc (.cells #[.int .i64 0, .int .i64 0, .int .i64 0, .string ⟨#[]⟩] 23) = W2
  have hB3 : Below W1.heap.size W1 W2 := by rw [← hW2]; exact bt hB2 ((Below.refl _ w2).alloc (Nat.le_refl _) _)
  obtain ⟨y0, y1, y2, y3, yf⟩ := okC_cell (b := w2.heap.size) (t := 23) (w := W2) (by rw [← hW2]; exact heap_alloc_new w2 _)
  have hr2 : W2.heap[w.heap.size]? = some (.cells okC 23 (0, 0)) := (hB3.block _ (by have := HG.out.size; omega)).trans ((HG.out.block _ hAs (fun e => by have := Option.some.inj e; omega)).trans HRr.out)
  obtain ⟨z0, z1, z2, z3, zf⟩ := okC_cell hr2
  have HB3 : Hid (Below W1.heap.size W1 W2) := hB3
  have HR2 : Hid (W2.heap[w.heap.size]? = some (.cells okC 23 (0, 0))) := hr2
  clear hB3 hB2 hr2 yf hA hW2
  go_wp2
  have G := grown4 W2 w.heap.size (.int .i64 0) (.int .i64 0) (.int .i64 0) (.string ⟨#[]⟩)
  obtain ⟨t1, t2, t3⟩ := HS.out
  have b3 := HB3.out
  have s1 : StoreAt W2 s k b := (b3.block s (Array.getElem?_eq_some_iff.1 t1).1).trans t1
  have s2 : KnownAt W2 k d half := (b3.block k (Array.getElem?_eq_some_iff.1 t2).1).trans t2
  have s3 : SetIn W2 b l := t3.below b3
  have s4 : W2.heap[x]? = _ := (b3.block x (Array.getElem?_eq_some_iff.1 HK1.out).1).trans HK1.out
  have n1 : s ≠ w.heap.size := fun e => by
    unfold StoreAt at s1
    rw [e, HR2.out] at s1
    cases s1
  have n2 : k ≠ w.heap.size := fun e => by
    unfold KnownAt at s2
    rw [e, HR2.out] at s2
    cases s2
  have nt2 : NoText (fun i => i = w.heap.size) W2 := NoText.one HR2.out (fun s e => by cases e) (fun a n p e => by cases e)
  refine bodyPost_ret (v := okV) (by simp [results, Tryz.results45, go_sem, z0, z1, z2, z3]) rfl ⟨s, k, b, rfl, ?_, ?_, ?_, ?_, by omega, by omega, ?_⟩
  · exact (G.block x (Array.getElem?_eq_some_iff.1 s4).1 (fun e => by have := Option.some.inj e; omega)).trans s4
  · exact (G.block s (Array.getElem?_eq_some_iff.1 s1).1 (fun e => n1 (Option.some.inj e))).trans s1
  · exact (G.block k (Array.getElem?_eq_some_iff.1 s2).1 (fun e => n2 (Option.some.inj e))).trans s2
  · exact s3.chg (Chg.grown G (fun k e _ => (Option.some.inj e).symm)) nt2 hln
  · have hg := HG.out
    refine ⟨G.os.trans (b3.os.trans (hg.os.trans hB.os)), G.tape.trans (b3.tape.trans (hg.tape.trans hB.tape)), G.output.trans (b3.output.trans (hg.output.trans hB.output)), Nat.le_trans hB.size (Nat.le_trans hg.size (Nat.le_trans b3.size G.size)), fun j hj hne => ?_⟩
    have e1 := hB.size
    have e2 := hg.size
    have e3 := b3.size
    exact (G.block j (by omega) (fun e => by have := Option.some.inj e; omega)).trans ((b3.block j (by omega)).trans ((hg.block j (by omega) hne).trans (hB.block j hj)))
end Go.Proofs.YtgnfknjopafngaaGreatDoor
namespace Go.Proofs.YtgnfknjopafngaaGreatDoor
open Go.RowKit Go.Maps
abbrev emptyD (N : Nat) : M.Dk := { held := List.replicate N zeros, seen := List.replicate N zeros, late := [], left := -1, dead := false }
theorem DiskAt.is_empty {w : World} {d N : Nat} {hv sv : Value} (h : DiskAt w d hv sv (.slice none 0 0) (-1) false (List.replicate N zeros) (List.replicate N zeros)) : DiskIs w d hv sv (.slice none 0 0) (emptyD N) := ⟨h.blk, h.held, h.seen, LateIn.none _ _, h.apart⟩
set_option maxRecDepth 100000 in
set_option maxHeartbeats 8000000 in
theorem new_full (n : Int) (w : World) (hR : Ready w) : Calls Tryz.prog 20 #[.int .i64 n] w fun e w' => ∃ x d s k b hv sv, e = .returned (.tuple #[.pointer (some ⟨x, 0, none⟩), okV]) ∧ SessAt w' x d (.pointer (some ⟨s, 0, none⟩)) ∧ StoreAt w' s k b ∧ KnownAt w' k d 0 ∧ SetIn w' b [] ∧
    DiskIs w' d hv sv (.slice none 0 0) (emptyD (sectorsN n)) ∧ w.heap.size ≤ x ∧ w.heap.size ≤ d ∧ w.heap.size ≤ s ∧ w.heap.size ≤ k ∧ Below w.heap.size w w' := by
  obtain ⟨m1, m2⟩ := sectorsN_le n
  generalize hA : w.alloc (.cells okC 23) = A
  have hB : Below w.heap.size w A := by rw [← hA]; exact (Below.refl _ w).alloc (Nat.le_refl _) _
  go_enter Tryz.func20, Tryz.ntmps20
  go_upto_region 2 with fail
  have hmn : min (max n 16) 256 = ((sectorsN n : Nat) : Int) := by
    unfold sectorsN
    split
    · omega
    · split <;> omega
  rw [hmn]
  generalize hNn : sectorsN n = N at m1 m2 ⊢
  have HN : Hid (sectorsN n = N) := hNn
  clear hNn
  have hr : A.heap[w.heap.size]? = some (.cells okC 23 (0, 0)) := by rw [← hA]; exact heap_alloc_new w _
  have hAs : w.heap.size < A.heap.size := (Array.getElem?_eq_some_iff.1 hr).1
  have HRr : Hid (A.heap[w.heap.size]? = some (.cells okC 23 (0, 0))) := hr
  have HRd : Hid (Ready A) := hR.below hB
  have cD := newDisk_any N A m2
  clear hA hr hR hmn
  go_wp2_with fail
  refine cD.mono ?_
  rintro e w1 ⟨hv, sv, rfl, hD, hB1⟩
  have HD : Hid (DiskAt w1 A.heap.size hv sv (.slice none 0 0) (-1) false (List.replicate N zeros) (List.replicate N zeros)) := hD
  clear cD hD
  go_upto_region 3 with fail
  generalize hX : w1.alloc (.cells #[.pointer (some ⟨A.heap.size, 0, none⟩), .pointer none] 88) = X1
  have hBX : Below w1.heap.size w1 X1 := by rw [← hX]; exact (Below.refl _ w1).alloc (Nat.le_refl _) _
  have hXs : SessAt X1 w1.heap.size A.heap.size (.pointer none) := by rw [← hX]; exact heap_alloc_new w1 _
  have cO := open_any w1.heap.size A.heap.size N 0 (.pointer none) hv sv _ (emptyD N) [] X1 ((HRd.out.below hB1).below hBX) hXs (DiskAt.is_empty (HD.out.below hBX)) (M.lies_empty N m1) m1 m2 (by simp) M.apart_nil (by decide) (by simp) (by simp)
  have hXl : w1.heap.size < X1.heap.size := (Array.getElem?_eq_some_iff.1 hXs).1
  have HX1 : Hid (SessAt X1 w1.heap.size A.heap.size (.pointer none)) := hXs
  clear hX hXs
  go_wp2_with fail
  refine cO.mono ?_
  rintro e w2 ⟨s, k, b, rfl, t1, t2, t3, t4, hs8, hk8, hG⟩
  have HT : Hid (SessAt w2 w1.heap.size A.heap.size (.pointer (some ⟨s, 0, none⟩)) ∧ StoreAt w2 s k b ∧ KnownAt w2 k A.heap.size 0 ∧ SetIn w2 b [] ∧ X1.grownBy w2 (some w1.heap.size)) := ⟨t1, t2, t3, t4, hG⟩
  clear t1 t2 t3 t4 hG cO
  go_upto_region 4 with fail
  generalize hW4 : w2.alloc (.cells #[.int .i64 0, .int .i64 0, .int .i64 0, .string ⟨#[]⟩] 23) = W4
  have hB4 : Below w2.heap.size w2 W4 := by rw [← hW4]; exact (Below.refl _ w2).alloc (Nat.le_refl _) _
  obtain ⟨y0, y1, y2, y3, yf⟩ := okC_cell (b := w2.heap.size) (t := 23) (w := W4) (by rw [← hW4]; exact heap_alloc_new w2 _)
  obtain ⟨t1, t2, t3, t4, hG⟩ := HT.out
  have hs1 := hB1.size
  have hs2 := hBX.size
  have hs3 := hG.size
  have hr4 : W4.heap[w.heap.size]? = some (.cells okC 23 (0, 0)) := (hB4.block _ (by omega)).trans ((hG.block _ (by omega) (fun e => by have := Option.some.inj e; omega)).trans ((hBX.block _ (by omega)).trans ((hB1.block _ hAs).trans HRr.out)))
  obtain ⟨z0, z1, z2, z3, zf⟩ := okC_cell hr4
  have HE : Hid (SessAt W4 w1.heap.size A.heap.size (.pointer (some ⟨s, 0, none⟩)) ∧ StoreAt W4 s k b ∧ KnownAt W4 k A.heap.size 0 ∧ SetIn W4 b [] ∧ DiskAt W4 A.heap.size hv sv (.slice none 0 0) (-1) false (List.replicate N zeros) (List.replicate N zeros) ∧ Below w.heap.size w W4 ∧ W4.heap[w.heap.size]? = some (.cells okC 23 (0, 0)) ∧ w.heap.size < A.heap.size ∧ A.heap.size ≤ w1.heap.size) := by
    refine ⟨(hB4.block _ (Array.getElem?_eq_some_iff.1 t1).1).trans t1, (hB4.block _ (Array.getElem?_eq_some_iff.1 t2).1).trans t2, (hB4.block _ (Array.getElem?_eq_some_iff.1 t3).1).trans t3, t4.below hB4, ?_, ?_, hr4, hAs, hs1⟩
    · have d1 := HD.out.below hBX
      have hn8 : ∀ j, some w1.heap.size = some j → ∀ cur fz, X1.heap[j]? ≠ some (.cells cur 5 fz) := fun j hj cur fz hh => by
        cases hj
        have := HX1.out
        unfold SessAt at this
        rw [this] at hh
        cases hh
      have hl : ∀ v l, Secs w1 (A.heap.size + 1) v l → v.ownBlock = none ∨ v.ownBlock ≠ some w1.heap.size := fun v l h => by
        cases hq : v.ownBlock with
        | none => exact .inl rfl
        | some g => exact .inr (fun e => by have := h.lt g hq; cases e; omega)
      have d2 : DiskAt w2 A.heap.size hv sv (.slice none 0 0) (-1) false (List.replicate N zeros) (List.replicate N zeros) :=
        ⟨(hG.block _ (Array.getElem?_eq_some_iff.1 d1.blk).1 (fun e => by have := Option.some.inj e; have := (Array.getElem?_eq_some_iff.1 HD.out.blk).1; omega)).trans d1.blk, d1.held.kept hG hn8 (hl _ _ HD.out.held), d1.seen.kept hG hn8 (hl _ _ HD.out.seen), d1.apart⟩
      exact d2.below hB4
    · refine ⟨hB4.os.trans (hG.os.trans (hBX.os.trans (hB1.os.trans hB.os))), hB4.tape.trans (hG.tape.trans (hBX.tape.trans (hB1.tape.trans hB.tape))), hB4.output.trans (hG.output.trans (hBX.output.trans (hB1.output.trans hB.output))), by have := hB.size; have := hB4.size; omega, fun j hj => ?_⟩
      have := hB.size
      exact (hB4.block j (by omega)).trans ((hG.block j (by omega) (fun e => by have := Option.some.inj e; omega)).trans ((hBX.block j (by omega)).trans ((hB1.block j (by omega)).trans (hB.block j hj))))
  clear hr4 hW4 hB4 t1 t2 t3 t4 hG hs1 hs2 hs3 yf HT HD hBX hB1 hB
  go_region
  go_wp2
  have G0 := grown4 W4 w.heap.size (.int .i64 0) (.int .i64 0) (.int .i64 0) (.string ⟨#[]⟩)
  have G : W4.grownBy (((((W4.setCell ⟨w.heap.size, 0, none⟩ (.int .i64 0)).setCell ⟨w.heap.size, 1, none⟩ (.int .i64 0)).setCell ⟨w.heap.size, 2, none⟩ (.int .i64 0)).setCell ⟨w.heap.size, 3, none⟩ (.string ⟨#[]⟩)).drew) (some w.heap.size) := ⟨G0.os, G0.tape, G0.output, G0.size, G0.block⟩
  obtain ⟨s4, s1, s2, s3, s5, s6, s7, s8, s9⟩ := HE.out
  have n1 : s ≠ w.heap.size := fun e => by
    unfold StoreAt at s1
    rw [e, s7] at s1
    cases s1
  have n2 : k ≠ w.heap.size := fun e => by
    unfold KnownAt at s2
    rw [e, s7] at s2
    cases s2
  have n3 : b ≠ w.heap.size := fun e => by
    obtain ⟨es, c, hh⟩ := s3.choose_spec.1.block?
    rw [e, s7] at hh
    cases hh
  refine bodyPost_ret (v := .tuple #[.pointer (some ⟨w1.heap.size, 0, none⟩), okV]) (by simp [results, Tryz.results20, go_sem, z0, z1, z2, z3]) rfl ⟨_, A.heap.size, s, k, b, hv, sv, rfl, ?_, ?_, ?_, ?_, ?_, by omega, by omega, by omega, by omega, ?_⟩
  · exact (G.block _ (Array.getElem?_eq_some_iff.1 s4).1 (fun e => by have := Option.some.inj e; omega)).trans s4
  · exact (G.block s (Array.getElem?_eq_some_iff.1 s1).1 (fun e => n1 (Option.some.inj e))).trans s1
  · exact (G.block k (Array.getElem?_eq_some_iff.1 s2).1 (fun e => n2 (Option.some.inj e))).trans s2
  · exact s3.kept0 G (fun e => n3 (Option.some.inj e))
  · rw [HN.out]
    exact DiskAt.is_empty <| s5.kept G s8 (fun cur fz hh => by rw [s7] at hh; cases hh)
  · exact s6.grown G s6.size (fun j hj => by cases hj; exact Nat.le_refl _)
end Go.Proofs.YtgnfknjopafngaaGreatDoor
namespace Go.Proofs.YtgnfknjopafngaaGreatDoor
namespace M
theorem putSome_snoc (sel : Nat → Bool) : ∀ (l : List (Nat × List UInt8)) (i : Nat) (h : List (List UInt8)) (w : Nat × List UInt8), putSome sel i (l ++ [w]) h = if sel (i + l.length) = true then (putSome sel i l h).set w.1 w.2 else putSome sel i l h
  | [], i, h, w => rfl
  | a :: l, i, h, w => by
    rw [List.cons_append]
    unfold putSome
    rw [putSome_snoc sel l (i + 1)]
    rw [show i + 1 + l.length = i + (a :: l).length by simp; omega]
theorem putSome_congr (sel sel' : Nat → Bool) : ∀ (l : List (Nat × List UInt8)) (i : Nat) (h : List (List UInt8)), (∀ k, i ≤ k → k < i + l.length → sel k = sel' k) → putSome sel i l h = putSome sel' i l h
  | [], i, h, _ => rfl
  | a :: l, i, h, hk => by
    unfold putSome
    rw [hk i (Nat.le_refl _) (by simp), putSome_congr sel sel' l (i + 1) _ (fun k h1 h2 => hk k (by omega) (by simp; omega))]
theorem putSome_ext (sel : Nat → Bool) (l : List (Nat × List UInt8)) (h : List (List UInt8)) (w : Nat × List UInt8) (b : Bool) :
    ∃ sel' : Nat → Bool, putSome sel' 0 (l ++ [w]) h = (if b = true then (putSome sel 0 l h).set w.1 w.2 else putSome sel 0 l h) ∧ (b = true → (∀ i, sel i = true) → ∀ i, sel' i = true) := by
  refine ⟨fun i => if i = l.length then b else sel i, ?_, fun hb hs i => ?_⟩
  · rw [putSome_snoc, Nat.zero_add, if_pos rfl, putSome_congr _ sel l 0 h (fun k _ hk => if_neg (by omega))]
  · simp only
    split
    · exact hb
    · exact hs i
end M
end Go.Proofs.YtgnfknjopafngaaGreatDoor
