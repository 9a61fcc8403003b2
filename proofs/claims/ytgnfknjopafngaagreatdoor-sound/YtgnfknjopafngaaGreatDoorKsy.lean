import Derived.Test.YtgnfknjopafngaaGreatDoorKse
import Derived.Test.YtgnfknjopafngaaGreatDoorKsx
import Derived.Maps.OwnIn
import Derived.Laws.EntriesVeiled
namespace Go.Proofs.YtgnfknjopafngaaGreatDoor
open Go.RowKit
theorem setCell_grown (w : World) (d o : Nat) (v : Value) : w.grownBy (w.setCell ⟨d, o, none⟩ v) (some d) := ⟨rfl, rfl, rfl, by simp, fun k _ hk => Below.heap_setCell _ _ _ _ (fun e => hk (by rw [e]))⟩
theorem grown_same {A B C : World} {row : Option Nat} (h : A.grownBy B row) (k : B.grownBy C row) : A.grownBy C row :=
  ⟨k.os.trans h.os, k.tape.trans h.tape, k.output.trans h.output, Nat.le_trans h.size k.size, fun j hj hne => (k.block j (Nat.lt_of_lt_of_le hj h.size) hne).trans (h.block j hj hne)⟩
theorem DiskIs.tick1 {w : World} {d : Nat} {hv sv lv : Value} {D : M.Dk} (h : DiskIs w d hv sv lv D) (b : Bool) : DiskIs (w.setCell ⟨d, 4, none⟩ (.bool b)) d hv sv lv { D with left := D.left, dead := b } ∧ w.grownBy (w.setCell ⟨d, 4, none⟩ (.bool b)) (some d) :=
  have hg := setCell_grown w d 4 (.bool b)
  ⟨h.ctl hg D.left b (heap_setCell_same w d 4 _ _ _ h.blk), hg⟩
theorem DiskIs.tick2 {w : World} {d : Nat} {hv sv lv : Value} {D : M.Dk} (h : DiskIs w d hv sv lv D) (b : Bool) (l : Int) : DiskIs ((w.setCell ⟨d, 4, none⟩ (.bool b)).setCell ⟨d, 3, none⟩ (.int .i64 l)) d hv sv lv { D with left := l, dead := b } ∧ w.grownBy ((w.setCell ⟨d, 4, none⟩ (.bool b)).setCell ⟨d, 3, none⟩ (.int .i64 l)) (some d) :=
  have h1 := heap_setCell_same w d 4 _ _ (.bool b) h.blk
  have hg := grown_same (setCell_grown w d 4 (.bool b)) (setCell_grown _ d 3 (.int .i64 l))
  ⟨h.ctl hg l b (heap_setCell_same _ d 3 _ _ _ h1), hg⟩
set_option maxRecDepth 100000 in
set_option maxHeartbeats 4000000 in
theorem dLost_any (d : Nat) (hv sv lv : Value) (D : M.Dk) (w : World) (h : DiskIs w d hv sv lv D) (hl : D.left ≤ 9223372036854775807) :
    Calls Tryz.prog 323 #[.pointer (some ⟨d, 0, none⟩)] w fun e w' => e = .returned (.bool (D.dead || D.left == 0)) ∧ DiskIs w' d hv sv lv D.tick ∧ w.grownBy w' (some d) := by
  have c3 : w.cell? ⟨d, 3, none⟩ = some (.int .i64 D.left) := (cell_of_row w _ 3 _ _ (0, 0) h.blk).trans rfl
  have c4 : w.cell? ⟨d, 4, none⟩ = some (.bool D.dead) := (cell_of_row w _ 4 _ _ (0, 0) h.blk).trans rfl
  have f3 : w.frozen? ⟨d, 3, none⟩ = false := frozen_of_row w _ _ _ _ h.blk
  have f4 : w.frozen? ⟨d, 4, none⟩ = false := frozen_of_row w _ _ _ _ h.blk
  have H : Hid (DiskIs w d hv sv lv D) := h
  obtain ⟨held, seen, late, left, dead⟩ := D
  simp only at c3 c4 hl
  clear h
  cases dead with
  | true =>
    by_cases hp : 0 < left
    · have HP : Hid (M.Dk.tick ⟨held, seen, late, left, true⟩ = ⟨held, seen, late, left - 1, true⟩) := by show _ = _; unfold M.Dk.tick; simp [hp]
      go_enter Tryz.func323, Tryz.ntmps323
      go_wp2
      go_ret
      rw [HP.out]
      exact ⟨by simp, H.out.tick2 true (left - 1)⟩
    · have HP : Hid (M.Dk.tick ⟨held, seen, late, left, true⟩ = ⟨held, seen, late, left, true⟩) := by show _ = _; unfold M.Dk.tick; simp [hp]
      go_enter Tryz.func323, Tryz.ntmps323
      go_wp2
      go_ret
      rw [HP.out]
      exact ⟨by simp, H.out.tick1 true⟩
  | false =>
    by_cases hz : left = 0
    · subst hz
      have HP : Hid (M.Dk.tick ⟨held, seen, late, 0, false⟩ = ⟨held, seen, late, 0, true⟩) := by show _ = _; unfold M.Dk.tick; simp
      go_enter Tryz.func323, Tryz.ntmps323
      go_wp2
      go_ret
      rw [HP.out]
      exact ⟨by simp, H.out.tick1 true⟩
    · by_cases hp : 0 < left
      · have HP : Hid (M.Dk.tick ⟨held, seen, late, left, false⟩ = ⟨held, seen, late, left - 1, false⟩) := by show _ = _; unfold M.Dk.tick; simp [hp, hz]
        have hz2 : (left == 0) = false := by simpa using hz
        go_enter Tryz.func323, Tryz.ntmps323
        go_wp2
        go_ret
        rw [HP.out]
        exact ⟨by simp [hz2], H.out.tick2 false (left - 1)⟩
      · have HP : Hid (M.Dk.tick ⟨held, seen, late, left, false⟩ = ⟨held, seen, late, left, false⟩) := by show _ = _; unfold M.Dk.tick; simp [hp, hz]
        have hz2 : (left == 0) = false := by simpa using hz
        go_enter Tryz.func323, Tryz.ntmps323
        go_wp2
        go_ret
        rw [HP.out]
        exact ⟨by simp, H.out.tick1 false⟩
theorem infoWr : (Tryz.prog.info? 146).map (fun i => (i.zero, i.size, i.bytes)) = some (some (.agg #[.int .i64 0, .slice none 0 0]), 2, 32) := by kernel_rfl
theorem DiskIs.addLate {w : World} {d : Nat} {hv sv lv : Value} {D : M.Dk} (h : DiskIs w d hv sv lv D) (n : Nat) (u : Value) (x : List UInt8) (hu : Sec w (d + 1) u x) (ty : TypeId) (hlen : D.late.length ≤ 1000000) :
    ∃ a c w', (Builtin.append_ #[101, 101] ty #[lv, .slice (some ⟨w.heap.size, 0, none⟩) 1 1]).run Tryz.prog (w.alloc (.cells #[.int .i64 n, u] 146)) = .ok (.slice a (D.late.length + 1) c) w' ∧
      w'.heap[d]? = some (.cells #[hv, sv, lv, .int .i64 D.left, .bool D.dead] 103 (0, 0)) ∧
      DiskIs (w'.setCell ⟨d, 2, none⟩ (.slice a (D.late.length + 1) c)) d hv sv (.slice a (D.late.length + 1) c) { D with late := D.late ++ [(n, x)] } ∧
      Chg (dFoot d hv sv lv) w (w'.setCell ⟨d, 2, none⟩ (.slice a (D.late.length + 1) c)) ∧
      (∀ g, (Value.slice a (D.late.length + 1) c).ownBlock = some g → lv.ownBlock = some g ∨ w.heap.size ≤ g) := by
  obtain ⟨i0, hi0, hz0, hz1, hz2⟩ := info_parts infoWr
  have hBA : Below w.heap.size w (w.alloc (.cells #[.int .i64 n, u] 146)) := (Below.refl _ w).alloc (Nat.le_refl _) _
  have hc0 : ∀ j y, [Value.int .i64 n, u][j]? = some y → (w.alloc (.cells #[.int .i64 n, u] 146)).cell? ⟨w.heap.size, j, none⟩ = some y := fun j y hy => new_at w [.int .i64 n, u] _ j y hy
  have hsA : (w.alloc (.cells #[.int .i64 n, u] 146)).heap.size = w.heap.size + 1 := by simp
  generalize w.alloc (.cells #[.int .i64 n, u] 146) = A at hBA hc0 hsA
  have hA := h.below hBA
  have huA : Sec A (d + 1) u x := hu.chg (Chg.below (F := fun _ => False) hBA) (noU8_none w)
  have hd := (Array.getElem?_eq_some_iff.1 h.blk).1
  obtain ⟨-, us, l1, l2, l3⟩ := hA.late
  have hu1 : u.oneCell' = true := by obtain ⟨g, c, rfl, _⟩ := hu; rfl
  obtain ⟨v', w', hrun, r1, r2, _, r4⟩ := run_append_own_at (P := Tryz.prog) A (d + 1) 101 ty 146 i0 _ 2 32 Tryz.underlying101 hi0 hz0 hz1 hz2 rfl (by decide) lv D.late.length (lateCells D.late us) l2 ⟨w.heap.size, 0, none⟩ 1 1 [.int .i64 n, u] rfl (fun j y hy => by
    rw [Addr.add_lit, Nat.zero_add]; exact hc0 j y hy) (fun y hy => by
    rcases List.mem_cons.1 hy with rfl | hy
    · rfl
    · simp only [List.mem_singleton] at hy; subst hy; exact hu1) (by unfold maxLen; omega) (by omega) (by omega)
  obtain ⟨a, c, e⟩ := own_form r1
  subst e
  have e1 : w'.heap[d]? = some (.cells #[hv, sv, lv, .int .i64 D.left, .bool D.dead] 103 (0, 0)) := heap_kept hA.blk r2 (fun e => by have := hA.late.lt d e.symm; omega)
  have hcw : Chg (fun k => lv.ownBlock = some k) A w' := Chg.grown r2 (fun k e _ => e)
  have hF : NoU8 (fun k => lv.ownBlock = some k) A := fun k hk cur fz e => by obtain ⟨c2, h2⟩ := hA.late.type k hk; rw [h2] at e; cases e
  have huw : Sec w' (d + 1) u x := huA.chg hcw hF
  have hlate' : LateIn w' (d + 1) (.slice a (D.late.length + 1) c) (D.late ++ [(n, x)]) := by
    refine ⟨fun e => by simp at e, us ++ [u], by simp [l1], ?_, fun i hi => ?_⟩
    · rw [lateCells_snoc _ _ _ _ l1, List.length_append]
      exact r1
    · by_cases hlt : i < D.late.length
      · obtain ⟨y, k1, k2⟩ := l3 i hlt
        refine ⟨y, by rw [List.getElem?_append_left (by omega)]; exact k1, ?_⟩
        rw [List.getElem_append_left hlt]
        exact k2.chg hcw hF
      · have e : i = D.late.length := by simp at hi; omega
        subst e
        refine ⟨u, by rw [List.getElem?_append_right (by omega)]; simp [l1], ?_⟩
        rw [List.getElem_append_right (by omega)]
        simpa using huw
  have hheld : Secs w' (d + 1) hv D.held := hA.held.chg hcw hF (fun g hg e => by obtain ⟨c1, h1⟩ := hA.held.type g hg; obtain ⟨c2, h2⟩ := hA.late.type g e; rw [h1] at h2; cases h2)
  have hseen : Secs w' (d + 1) sv D.seen := hA.seen.chg hcw hF (fun g hg e => by obtain ⟨c1, h1⟩ := hA.seen.type g hg; obtain ⟨c2, h2⟩ := hA.late.type g e; rw [h1] at h2; cases h2)
  have hset := setCell_grown w' d 2 (.slice a (D.late.length + 1) c)
  have hcs : Chg (fun k => k = d) w' (w'.setCell ⟨d, 2, none⟩ (.slice a (D.late.length + 1) c)) := Chg.grown hset (fun k e _ => (Option.some.inj e).symm)
  have hFs : NoU8 (fun k => k = d) w' := fun k e cur fz => by subst e; rw [e1]; intro e; cases e
  have hne : ∀ (v : Value), (∀ g, v.ownBlock = some g → d + 1 ≤ g ∧ g < w'.heap.size) → ∀ g, v.ownBlock = some g → ¬ g = d := fun v hl g hg e => by have := hl g hg; omega
  refine ⟨a, c, w', hrun, e1, ⟨heap_setCell_same w' d 2 _ _ _ e1, hheld.chg hcs hFs (hne _ hheld.lt), hseen.chg hcs hFs (hne _ hseen.lt), hlate'.chg hcs hFs (hne _ hlate'.lt), h.apart⟩, ?_, ?_⟩
  · exact ((Chg.below hBA).then hcw (fun k _ e => .inr (.inr (.inr e)))).then hcs (fun k _ e => .inl e)
  · intro g hg
    rcases r4 with e | e
    · rw [e] at hg; exact .inl hg
    · rw [e] at hg; have := Option.some.inj hg; exact .inr (by omega)
theorem copy_pad {w : World} {g h c : Nat} {x : List UInt8} (ty : TypeId) (hg : w.heap[g]? = some (.cells Z64 5 (0, 0))) (hh : ∀ j u, (x.map byteV)[j]? = some u → w.cell? ⟨h, j, none⟩ = some u) (hx : x.length ≤ 64) :
    (Builtin.copy_ #[131, 131] ty #[.slice (some ⟨g, 0, none⟩) 64 64, .slice (some ⟨h, 0, none⟩) x.length c]).run Tryz.prog w = .ok (.int .i64 x.length) (w.setRow g ((M.pad x).map byteV).toArray) := by
  have hl : (x.map byteV).length = x.length := by rw [List.length_map]
  have hz : Z64.size = 64 := by simp [Z64, zeros_len]
  rw [run_copy_row Tryz.prog w 131 131 ty 5 g 0 64 64 ⟨h, 0, none⟩ x.length c Z64 5 (x.map byteV) Tryz.underlying131 byteInfo hg (by rw [hl]; exact (Nat.min_eq_left hx).symm) (fun j v hv => by
    rw [Addr.add_lit, Nat.zero_add]
    exact hh j v hv) (by omega) (byte_one x)]
  rw [hl]
  have e : (Z64.toList.take 0 ++ x.map byteV ++ Z64.toList.drop (0 + x.length)) = (M.pad x).map byteV := by
    have ez : Z64.toList = List.replicate 64 (byteV 0) := by
      show List.map byteV (List.replicate 64 0) = _
      rw [List.map_replicate]
    unfold M.pad
    rw [ez, List.take_zero, List.nil_append, Nat.zero_add, List.drop_replicate, List.take_of_length_le hx, List.map_append, List.map_replicate]
  rw [e]
  rfl
theorem pad_whole {w : World} {g base : Nat} {x : List UInt8} (hb : base ≤ g) (h : w.heap[g]? = some (.cells ((M.pad x).map byteV).toArray 5 (0, 0))) : Sec w base (.slice (some ⟨g, 0, none⟩) 64 64) (M.pad x) := Sec.whole hb h (M.pad_len x)
set_option maxRecDepth 100000 in
set_option maxHeartbeats 8000000 in
theorem dWrite_any (d n g c : Nat) (hv sv lv : Value) (D : M.Dk) (x : List UInt8) (w : World) (h : DiskIs w d hv sv lv D) (hn : n < D.seen.length) (hl : D.left ≤ 9223372036854775807) (hx : x.length ≤ 64) (hxs : ∀ j u, (x.map byteV)[j]? = some u → w.cell? ⟨g, j, none⟩ = some u) (hg : g < w.heap.size) (hlen : D.late.length ≤ 1000000) :
    Calls Tryz.prog 322 #[.pointer (some ⟨d, 0, none⟩), .int .i64 n, .slice (some ⟨g, 0, none⟩) x.length c] w fun e w' => (∃ v, e = .returned v) ∧ ∃ lv', DiskIs w' d hv sv lv' (D.write n (M.pad x)) ∧ Chg (dFoot d hv sv lv) w w' ∧ (∀ k, lv'.ownBlock = some k → lv.ownBlock = some k ∨ w.heap.size ≤ k) := by
  have hmk := make64
  obtain ⟨b, cs, g0, cg, rfl, hb, hc1, hc2, q1, -⟩ := h.seen.at hn
  have hd : d < w.heap.size := (Array.getElem?_eq_some_iff.1 h.blk).1
  have q0 : w.cell? ⟨d, 1, none⟩ = some (.slice (some ⟨b, 0, none⟩) D.seen.length cs) := by rw [cell_of_row w _ 1 _ _ (0, 0) h.blk]; rfl
  generalize hA : w.alloc (.cells Z64 5) = A1
  have hB : Below w.heap.size w A1 := by rw [← hA]; exact (Below.refl _ w).alloc (Nat.le_refl _) _
  have hn1 : A1.heap[w.heap.size]? = some (.cells Z64 5 (0, 0)) := by rw [← hA]; exact heap_alloc_new w _
  have hcp := copy_pad (c := c) 3 hn1 (h := g) (fun j u hu => (hB.cell (p := ⟨g, j, none⟩) hg).trans (hxs j u hu)) hx
  generalize hA2 : A1.setRow w.heap.size ((M.pad x).map byteV).toArray = A2 at hcp
  have hB2 : Below w.heap.size w A2 := by rw [← hA2]; exact hB.grown (setRow_grown A1 _ _) hB.size (fun j hj => by cases hj; exact Nat.le_refl _)
  have hs2 : Sec A2 (d + 1) (.slice (some ⟨w.heap.size, 0, none⟩) 64 64) (M.pad x) := pad_whole (by omega) (by rw [← hA2]; exact setRow_heap A1 _ _ _ _ _ hn1)
  have h2 := h.below hB2
  obtain ⟨h3, hG3⟩ := h2.putSeen (n := n) _ _ hs2
  have p1 : A1.cell? ⟨d, 1, none⟩ = some (.slice (some ⟨b, 0, none⟩) D.seen.length cs) := (hB.cell (p := ⟨d, 1, none⟩) hd).trans q0
  have p2 : A2.cell? ⟨d, 1, none⟩ = some (.slice (some ⟨b, 0, none⟩) D.seen.length cs) := (hB2.cell (p := ⟨d, 1, none⟩) hd).trans q0
  have p3 : A2.cell? ⟨b, n, none⟩ = some (.slice (some ⟨g0, 0, none⟩) 64 cg) := (hB2.cell (p := ⟨b, n, none⟩) hb).trans q1
  obtain ⟨cur, ht⟩ := h2.seen.type b rfl
  have p4 : A2.frozen? ⟨b, n, none⟩ = false := frozen_of_row A2 _ _ _ _ ht
  generalize hA3 : A2.setCell ⟨b, n, none⟩ (.slice (some ⟨w.heap.size, 0, none⟩) 64 64) = A3 at h3 hG3
  have hC3 : Chg (dFoot d hv (.slice (some ⟨b, 0, none⟩) D.seen.length cs) lv) w A3 := (Chg.below hB2).then (Chg.grown hG3 (fun k e _ => e)) (fun k _ e => .inr (.inr (.inl (by show some b = some k; rw [e]))))
  have hs3 : Sec A3 (d + 1) (.slice (some ⟨w.heap.size, 0, none⟩) 64 64) (M.pad x) := hs2.chg (Chg.grown hG3 (fun k e _ => e)) (fun k hk cur2 fz e => by cases hk; rw [ht] at e; cases e)
  have cL := dLost_any d hv (.slice (some ⟨b, 0, none⟩) D.seen.length cs) lv { D with seen := D.seen.set n (M.pad x) } A3 h3 hl
  have hnL : (n : Int) < (D.seen.length : Int) := by omega
  have HC3 : Hid (Chg (dFoot d hv (.slice (some ⟨b, 0, none⟩) D.seen.length cs) lv) w A3) := hC3
  have HS3 : Hid (Sec A3 (d + 1) (.slice (some ⟨w.heap.size, 0, none⟩) 64 64) (M.pad x)) := hs3
  have hsz : w.heap.size ≤ A3.heap.size := hC3.size
  have hL2 : D.seen.length ≤ 9223372036854775807 := by unfold maxLen at hc2; omega
  have HW : Hid (∀ L : Bool, (D.dead || D.left == 0) = L → D.write n (M.pad x) = if L = true then M.Dk.tick { D with seen := D.seen.set n (M.pad x) } else { M.Dk.tick { D with seen := D.seen.set n (M.pad x) } with late := D.late ++ [(n, M.pad x)] }) := fun L hL => by
    unfold M.Dk.write M.Dk.tick
    simp only [hL]
    cases L <;> rfl
  have HL : Hid (D.late.length ≤ 1000000) := hlen
  have HBd : Hid (NoU8 (fun k => some d = some k) A3) := fun k hk cur2 fz e => by cases hk; rw [h3.blk] at e; cases e
  obtain ⟨L, hLe⟩ : ∃ L, (D.dead || D.left == 0) = L := ⟨_, rfl⟩
  replace HW := HW.out L hLe
  simp only [hLe] at cL
  have HW2 : Hid (D.write n (M.pad x) = if L = true then M.Dk.tick { D with seen := D.seen.set n (M.pad x) } else { M.Dk.tick { D with seen := D.seen.set n (M.pad x) } with late := D.late ++ [(n, M.pad x)] }) := HW
  generalize hT : M.Dk.tick { D with seen := D.seen.set n (M.pad x) } = T at cL HW2
  have HT : Hid (T.late = D.late) := by show _ = _; rw [← hT]; rfl
  clear h2 h3 hG3 hC3 hs3 hs2 ht HW hT hxs h hlen hLe hn1 hB hB2 q1
  go_enter Tryz.func322, Tryz.ntmps322
  go_wp2_with fail
  refine cL.mono ?_
  rintro e w4 ⟨rfl, hD4, hG4⟩
  clear cL
  have HC4 : Hid (Chg (dFoot d hv (.slice (some ⟨b, 0, none⟩) D.seen.length cs) lv) w w4) := HC3.out.then (Chg.grown hG4 (fun k e _ => e)) (fun k _ e => .inl (Option.some.inj e).symm)
  have hs4 : Sec w4 (d + 1) (.slice (some ⟨w.heap.size, 0, none⟩) 64 64) (M.pad x) := HS3.out.chg (Chg.grown hG4 (fun k e _ => e)) HBd.out
  cases L with
  | true =>
    have HD4 : Hid (DiskIs w4 d hv (.slice (some ⟨b, 0, none⟩) D.seen.length cs) lv (D.write n (M.pad x))) := by
      show DiskIs _ _ _ _ _ _
      rw [HW2.out, if_pos rfl]
      exact hD4
    clear hD4 hs4 hG4 HW2
    go_wp2
    go_end0
    exact ⟨⟨_, rfl⟩, lv, HD4.out, HC4.out, fun k hk => .inl hk⟩
  | false =>
    have HW3 : Hid (D.write n (M.pad x) = { T with late := D.late ++ [(n, M.pad x)] }) := by
      show _ = _
      rw [HW2.out, if_neg (by decide)]
    clear HW2
    obtain ⟨a5, c5, w5, r1, r2, r3, r4, r5⟩ := hD4.addLate n _ _ hs4 101 (by rw [HT.out]; exact HL.out)
    have s2 : w4.cell? ⟨d, 2, none⟩ = some lv := (cell_of_row w4 _ 2 _ _ (0, 0) hD4.blk).trans rfl
    have s5 : w5.cell? ⟨d, 2, none⟩ = some lv := (cell_of_row w5 _ 2 _ _ (0, 0) r2).trans rfl
    have s6 : w5.frozen? ⟨d, 2, none⟩ = false := frozen_of_row w5 _ _ _ _ r2
    obtain ⟨al, cl, el⟩ := hD4.late.form
    subst el
    have HR : Hid ((Builtin.append_ #[101, 101] 101 #[.slice al T.late.length cl, .slice (some ⟨w4.heap.size, 0, none⟩) 1 1]).run Tryz.prog (w4.alloc (.cells #[.int .i64 n, .slice (some ⟨w.heap.size, 0, none⟩) 64 64] 146)) = .ok (.slice a5 (T.late.length + 1) c5) w5) := r1
    have HF : Hid (DiskIs (w5.setCell ⟨d, 2, none⟩ (.slice a5 (T.late.length + 1) c5)) d hv (.slice (some ⟨b, 0, none⟩) D.seen.length cs) (.slice a5 (T.late.length + 1) c5) { T with late := T.late ++ [(n, M.pad x)] } ∧ Chg (dFoot d hv (.slice (some ⟨b, 0, none⟩) D.seen.length cs) (.slice al T.late.length cl)) w4 (w5.setCell ⟨d, 2, none⟩ (.slice a5 (T.late.length + 1) c5)) ∧ (∀ g, (Value.slice a5 (T.late.length + 1) c5).ownBlock = some g → (Value.slice al T.late.length cl).ownBlock = some g ∨ w4.heap.size ≤ g)) := ⟨r3, r4, r5⟩
    clear hD4 hs4 hG4 r1 r2 r3 r4 r5
    go_wp2_with (at_builtin; refine wpList_append_eq rfl (.tmp 36) (.tmp 40) 101 rfl _ _ _ _ rfl rfl HR.out ?_)
    go_end0
    refine ⟨⟨_, rfl⟩, .slice a5 (T.late.length + 1) c5, ?_, HC4.out.then HF.out.2.1 (fun k _ e => e), fun k hk => ?_⟩
    · rw [HW3.out, ← HT.out]
      exact HF.out.1
    · rcases HF.out.2.2 k hk with e | e
      · exact .inl e
      · exact .inr (Nat.le_trans HC4.out.size e)
end Go.Proofs.YtgnfknjopafngaaGreatDoor
namespace Go.Proofs.YtgnfknjopafngaaGreatDoor
open Go.RowKit Go.Maps Go.Shelf
attribute [local go_sem] Oper.semAt_some
set_option maxRecDepth 100000 in
theorem packs_any (s : Nat) (w : World) :
    Calls Tryz.prog 47 #[.pointer (some ⟨s, 0, none⟩)] w fun e w' => e = .returned (.func (.func 76) #[] #[.pointer (some ⟨w.heap.size, 0, none⟩)]) ∧ w' = w.alloc (.cells #[.pointer (some ⟨s, 0, none⟩)] 86) := by
  go_enter Tryz.func47, Tryz.ntmps47
  go_wp2
  go_ret
  exact ⟨rfl, rfl⟩
set_option maxRecDepth 100000 in
set_option maxHeartbeats 2000000 in
theorem packs_on (sb s k b n : Nat) (l : List M.Pk) (w0 : World) (hs : StoreAt w0 s k b) (hl : SetIn w0 b l) (hn : l.length ≤ 1000000) (hr : ∀ p ∈ l, ReadP p) (h2 : 2 ≤ n) :
    SeqOn Fence.wide n Tryz.prog 76 #[] #[.pointer (some ⟨sb, 0, none⟩)] l.length (fun k => #[.string (nmAt l k), .string (txAt l k)]) w0 (fun W => W.cell? ⟨sb, 0, none⟩ = some (.pointer (some ⟨s, 0, none⟩))) := by
  intro lp J W c hsb hB0 hJa hJc hY hJ0
  have h1 : 1 ≤ n := by omega
  have hsl : s < w0.heap.size := (Array.getElem?_eq_some_iff.1 hs).1
  have q1 : W.cell? ⟨s, 1, none⟩ = some (.map (some b)) := (hB0.cell (p := ⟨s, 1, none⟩) hsl).trans ((cell_of_row w0 _ 1 _ _ (0, 0) hs).trans rfl)
  have cE := each_on b (n - 1) l w0 hl hn hr (by omega) lp J W c trivial hB0 hJa hJc (fun k c W1 hk hJ => yield_any (hY k c W1 hk hJ)) hJ0
  simp only [List.append_toArray, List.nil_append, List.cons_append, List.append_nil] at cE
  clear hs hl hr hJa hJc hY hJ0
  simp only [List.append_toArray, List.nil_append, List.cons_append]
  refine callsIn_of_wp Tryz.func76 rfl trivial ?_ rfl
  simp only [Tryz.ntmps76, List.size_toArray, List.length_cons, List.length_nil, Nat.reduceAdd, Nat.reduceSub, Array.replicate_succ, Array.replicate_zero, List.push_toArray, List.append_toArray, List.nil_append, List.cons_append]
  gi_wp2_with (refine ⟨trivial, ?_⟩; gi_at_call 77; refine cE.mono ?_; rintro e w1 ⟨⟨v, rfl⟩, hJ1⟩)
  go_end0
  exact ⟨⟨_, rfl⟩, hJ1⟩
structure AskAt (W : World) (bo bn bk bl : Nat) (lv : Value) (no : Bool) (k : Nat) : Prop where
  ok : Boxed W bo 4 (.bool true)
  no : Boxed W bn 4 (.bool no)
  k : Boxed W bk 3 (.int .i64 k)
  l : Boxed W bl 43 lv
set_option maxRecDepth 100000 in
set_option maxHeartbeats 4000000 in
theorem ask_any (bo bn bk bl g cap m k : Nat) (N T : ByteArray) (W : World) (h : AskAt W bo bn bk bl (.slice (some ⟨g, 0, none⟩) m cap) false k) (hT : W.cell? ⟨g, k, none⟩ = some (.string T)) (hk : k < m) (hm : m ≤ 1000000) (h1 : bn ≠ bo) (h2 : bk ≠ bo) (h3 : bk ≠ bn) (h4 : bl ≠ bo) (h5 : bl ≠ bk) (h6 : bl ≠ bn) :
    Calls Tryz.prog 48 #[.string N, .string T, .pointer (some ⟨bo, 0, none⟩), .pointer (some ⟨bn, 0, none⟩), .pointer (some ⟨bk, 0, none⟩), .pointer (some ⟨bl, 0, none⟩)] W fun e W' => e = .returned (.bool (decide (k + 1 ≤ m / 2))) ∧ AskAt W' bo bn bk bl (.slice (some ⟨g, 0, none⟩) m cap) (decide (m / 2 < k + 1)) (k + 1) ∧ Chg (fun j => j = bo ∨ j = bk ∨ j = bn) W W' := by
  have q1 := h.ok.cell
  have q2 := h.no.cell
  have q3 := h.k.cell
  have q4 := h.l.cell
  have f1 := h.ok.frozen
  have f2 := h.no.frozen
  have f3 := h.k.frozen
  have HA : Hid (AskAt W bo bn bk bl (.slice (some ⟨g, 0, none⟩) m cap) false k) := h
  clear h
  go_enter Tryz.func48, Tryz.ntmps48
  go_wp2
  go_ret
  have e1 : decide ((m : Int) / 2 < (k : Int) + 1) = decide (m / 2 < k + 1) := by rw [decide_eq_decide]; omega
  have e2 : (!decide (m / 2 < k + 1)) = decide (k + 1 ≤ m / 2) := by rw [Bool.eq_iff_iff]; simp
  rw [e1, show ((k : Int) + 1) = ((k + 1 : Nat) : Int) by omega]
  have kp : ∀ {X : World} {B b : Nat} {t : TypeId} {v u : Value}, Boxed X B t v → B ≠ b → Boxed (X.setCell ⟨b, 0, none⟩ u) B t v := fun h hn => h.kept (grownBy_setCell' _ _ _) (fun e => hn (Option.some.inj e))
  refine ⟨by rw [← e2]; rfl, ⟨kp (kp (HA.out.ok.set _) h2.symm) h1.symm, (kp (kp HA.out.no h1) h3.symm).set _, kp ((kp HA.out.k h2).set _) h3, kp (kp (kp HA.out.l h4) h5) h6⟩, ?_⟩
  exact ((Chg.grown (setCell_grown _ _ _ _) (fun j e _ => .inl (Option.some.inj e).symm)).then (Chg.grown (F := fun j => j = bk) (setCell_grown _ _ _ _) (fun j e _ => (Option.some.inj e).symm)) (fun j _ e => .inr (.inl e))).then (Chg.grown (F := fun j => j = bn) (setCell_grown _ _ _ _) (fun j e _ => (Option.some.inj e).symm)) (fun j _ e => .inr (.inr e))
set_option maxRecDepth 100000 in
set_option maxHeartbeats 4000000 in
theorem each_ask (b bo bn bk bl g cap : Nat) (lv : Value) (l : List M.Pk) (w0 w : World) (hl : SetIn w0 b l) (hb0 : Below w0.heap.size w0 w) (hn : l.length ≤ 1000000) (hs : ∀ p ∈ l, ReadP p) (h1 : bn ≠ bo) (h2 : bk ≠ bo) (h3 : bk ≠ bn) (h4 : bl ≠ bo) (h5 : bl ≠ bk) (h6 : bl ≠ bn)
    (hlo : w0.heap.size ≤ bo ∧ w0.heap.size ≤ bk ∧ w0.heap.size ≤ bn) (hA : AskAt w bo bn bk bl lv false 0) (hlv : 0 < l.length → lv = .slice (some ⟨g, 0, none⟩) l.length cap) (hg : 0 < l.length → g ≠ bo ∧ g ≠ bk ∧ g ≠ bn) (hrow : ∀ k, k < l.length → w.cell? ⟨g, k, none⟩ = some (.string (txAt l k))) :
    Calls Tryz.prog 77 #[.map (some b), .func (.func 48) #[] #[.pointer (some ⟨bo, 0, none⟩), .pointer (some ⟨bn, 0, none⟩), .pointer (some ⟨bk, 0, none⟩), .pointer (some ⟨bl, 0, none⟩)]] w fun e W' => (∃ v, e = .returned v) ∧ Boxed W' bo 4 (.bool true) ∧ Chg (fun j => j = bo ∨ j = bk ∨ j = bn) w W' := by
  have hbo := hA.ok.lt
  have hbn := hA.no.lt
  have hbk := hA.k.lt
  have cN := names_any b l w (hl.below hb0) hn
  have HL : Hid (SetIn w0 b l) := hl
  have HS : Hid (∀ p ∈ l, ReadP p) := hs
  have HAp : Hid (M.Apart l) := hl.apart
  have HK : Hid (AskAt w bo bn bk bl lv false 0) := hA
  have HR0 : Hid (∀ k, k < l.length → w.cell? ⟨g, k, none⟩ = some (.string (txAt l k))) := hrow
  generalize hr : nmCells (M.sortN (l.map M.Pk.name)) = r at cN
  have HR : Hid (nmCells (M.sortN (l.map M.Pk.name)) = r) := hr
  clear hl hs hA hr hrow
  go_enter Tryz.func77, Tryz.ntmps77
  go_wp2_with (go_at_call 120; refine cN.mono ?_; rintro e w1 ⟨v, rfl, hrow, hB1⟩; obtain ⟨a1, c1, e1⟩ := own_form hrow; subst e1; have HRow : Hid (w1.ownsRow w.heap.size 9 1 (.slice a1 l.length c1) l.length r) := hrow; clear hrow cN)
  have HK1 : Hid (AskAt w1 bo bn bk bl lv false 0) := ⟨(hB1.block _ hbo).trans HK.out.ok, (hB1.block _ hbn).trans HK.out.no, (hB1.block _ hbk).trans HK.out.k, (hB1.block _ HK.out.l.lt).trans HK.out.l⟩
  go_loopw [5, 9] (fun _ i wr => ∃ k : Nat, i = .int .i64 k ∧ k ≤ l.length ∧ Hid (AskAt wr bo bn bk bl lv false k) ∧ Hid (wr.ownsRow w.heap.size 9 1 (.slice a1 l.length c1) l.length r) ∧ Hid (Chg (fun j => j = bo ∨ j = bk ∨ j = bn) w wr)) (fun _ i _ => l.length - (intOf i).toNat)
  case atStart => exact ⟨0, rfl, Nat.zero_le _, HK1, HRow, Chg.below hB1⟩
  case round =>
    obtain ⟨k, rfl, hk, HKr, HRw, HC⟩ := hrel
    have hBr : Below w0.heap.size w0 wr := Below.chg hb0 HC.out (fun j hj => by rcases hj with rfl | rfl | rfl <;> omega) (Nat.le_refl _)
    by_cases hlt : k < l.length
    · obtain ⟨p, hp, hnm, eN, eT⟩ := at_names HAp.out hlt
      obtain ⟨gg, e1, hgg, hcapn, hc⟩ := ((RowIn.own HRw.out).wide (Nat.zero_le _) (Nat.le_refl _)).cellAt (by omega)
      subst e1
      have c0 : wr.cell? ⟨gg, k, none⟩ = some (.string (nmAt l k)) := hc k _ (by rw [← HR.out]; unfold nmCells; rw [List.getElem?_map, hnm, eN]; rfl)
      have hYd : (nmAt l k).data.toList = p.name := by rw [eN]
      have hYs : (nmAt l k).size ≤ maxLen := by have := (HS.out p hp).short.name; rw [size_of hYd]; unfold maxLen; omega
      obtain ⟨f, hm, hv⟩ := HL.out.below hBr
      have hr1 : (Instr.lookup 135 (.map (some b)) (.string (nmAt l k)) false).run Tryz.prog wr = .ok (f p) wr := by
        rw [hm.look Tryz.underlying9 setMap (zeroPk_run wr) hYs, hYd, (look_mem hm.keys).2 (List.mem_map.2 ⟨p, hp, rfl⟩), Option.getD_some]
      have cO : Calls Tryz.prog 56 #[f p] wr (fun e w' => e = .returned (.string (txAt l k)) ∧ Below wr.heap.size wr w') := (oneForm_any p (f p) wr (hv p hp) (HS.out p hp).short).mono (fun e w' ⟨T, e1, e2, e3⟩ => ⟨by rw [e1, eT, ← e2], e3⟩)
      have cA : ∀ wx, Below wr.heap.size wr wx → Calls Tryz.prog 48 #[.string (nmAt l k), .string (txAt l k), .pointer (some ⟨bo, 0, none⟩), .pointer (some ⟨bn, 0, none⟩), .pointer (some ⟨bk, 0, none⟩), .pointer (some ⟨bl, 0, none⟩)] wx fun e W' => e = .returned (.bool (decide (k + 1 ≤ l.length / 2))) ∧ AskAt W' bo bn bk bl lv (decide (l.length / 2 < k + 1)) (k + 1) ∧ Chg (fun j => j = bo ∨ j = bk ∨ j = bn) wx W' := fun wx hb => by
        have hK := HKr.out
        rw [hlv (by omega)] at hK ⊢
        refine ask_any bo bn bk bl g cap l.length k _ _ wx ⟨(hb.block _ hK.ok.lt).trans hK.ok, (hb.block _ hK.no.lt).trans hK.no, (hb.block _ hK.k.lt).trans hK.k, (hb.block _ hK.l.lt).trans hK.l⟩ ?_ hlt hn h1 h2 h3 h4 h5 h6
        have hcw := HC.out.cell (HR0.out k hlt) (fun e => by rcases e with e | e | e; exact (hg (by omega)).1 e; exact (hg (by omega)).2.1 e; exact (hg (by omega)).2.2 e)
        exact (hb.cell (p := ⟨g, k, none⟩) (World.block_lt_of_cell? _ _ hcw)).trans hcw
      generalize f p = fv at hr1 cO
      clear hm hv hYd hc hnm eN eT
      have HCx : Hid (∀ wx w4, Below wr.heap.size wr wx → Chg (fun j => j = bo ∨ j = bk ∨ j = bn) wx w4 → Chg (fun j => j = bo ∨ j = bk ∨ j = bn) w w4 ∧ w4.ownsRow w.heap.size 9 1 (.slice (some ⟨gg, 0, none⟩) l.length c1) l.length r) := fun wx w4 hb hc4 => by
        refine ⟨(HC.out.then (Chg.below (F := fun _ => False) hb) (fun _ _ e => e.elim)).then hc4 (fun _ _ e => e), hc4.own (Chg.own (F := fun _ => False) (Chg.below hb) HRw.out (fun _ _ h => h)) (fun j hj e => ?_)⟩
        have := (HRw.out.lt j hj).1
        rcases e with rfl | rfl | rfl <;> omega
      by_cases hh : k + 1 ≤ l.length / 2
      · rw [decide_eq_true hh, decide_eq_false (by omega : ¬ l.length / 2 < k + 1)] at cA
        clear hh
        go_wp2_with (first
          | (go_at_call 56; refine cO.mono ?_; rintro e w3 ⟨rfl, hB3⟩)
          | (go_at_call 48; refine (cA w3 hB3).mono ?_; rintro e w4 ⟨rfl, hA4, hC4⟩; have HA4 : Hid (AskAt w4 bo bn bk bl lv false (k + 1)) := hA4; have HC4 : Hid (Chg (fun j => j = bo ∨ j = bk ∨ j = bn) w3 w4) := hC4; clear hA4 hC4))
        go_roundw
        case rel => exact ⟨k + 1, by go_num, by omega, HA4, (HCx.out w3 w4 hB3 HC4.out).2, (HCx.out w3 w4 hB3 HC4.out).1⟩
        case measure => simp [intOf]; omega
      · rw [decide_eq_false hh] at cA
        clear hh
        go_wp2_with (first
          | (go_at_call 56; refine cO.mono ?_; rintro e w3 ⟨rfl, hB3⟩)
          | (go_at_call 48; refine (cA w3 hB3).mono ?_; rintro e w4 ⟨rfl, hA4, hC4⟩; have HA4 : Hid (Boxed w4 bo 4 (.bool true)) := hA4.ok; have HC4 : Hid (Chg (fun j => j = bo ∨ j = bk ∨ j = bn) w3 w4) := hC4; clear hA4 hC4))
        refine bodyPost_ret (results_none rfl _ _ _) rfl ?_
        exact ⟨⟨_, rfl⟩, HA4.out, (HCx.out w3 w4 hB3 HC4.out).1⟩
    · have HE : Hid (k = l.length) := by show _ = _; omega
      go_wp2
      go_end0
      exact ⟨⟨_, rfl⟩, HKr.out.ok, HC.out⟩
set_option maxRecDepth 100000 in
set_option maxHeartbeats 2000000 in
theorem packs_ask (sb s k b bo bn bk bl g cap : Nat) (lv : Value) (l : List M.Pk) (w0 w : World) (hst : StoreAt w0 s k b) (hsb : w.cell? ⟨sb, 0, none⟩ = some (.pointer (some ⟨s, 0, none⟩))) (hl : SetIn w0 b l) (hb0 : Below w0.heap.size w0 w) (hn : l.length ≤ 1000000) (hs : ∀ p ∈ l, ReadP p) (h1 : bn ≠ bo) (h2 : bk ≠ bo) (h3 : bk ≠ bn) (h4 : bl ≠ bo) (h5 : bl ≠ bk) (h6 : bl ≠ bn)
    (hlo : w0.heap.size ≤ bo ∧ w0.heap.size ≤ bk ∧ w0.heap.size ≤ bn) (hA : AskAt w bo bn bk bl lv false 0) (hlv : 0 < l.length → lv = .slice (some ⟨g, 0, none⟩) l.length cap) (hg : 0 < l.length → g ≠ bo ∧ g ≠ bk ∧ g ≠ bn) (hrow : ∀ k, k < l.length → w.cell? ⟨g, k, none⟩ = some (.string (txAt l k))) :
    Calls Tryz.prog 76 #[.func (.func 48) #[] #[.pointer (some ⟨bo, 0, none⟩), .pointer (some ⟨bn, 0, none⟩), .pointer (some ⟨bk, 0, none⟩), .pointer (some ⟨bl, 0, none⟩)], .pointer (some ⟨sb, 0, none⟩)] w fun e W' => (∃ v, e = .returned v) ∧ Boxed W' bo 4 (.bool true) ∧ Chg (fun j => j = bo ∨ j = bk ∨ j = bn) w W' := by
  have hsl : s < w0.heap.size := (Array.getElem?_eq_some_iff.1 hst).1
  have q1 : w.cell? ⟨s, 1, none⟩ = some (.map (some b)) := (hb0.cell (p := ⟨s, 1, none⟩) hsl).trans ((cell_of_row w0 _ 1 _ _ (0, 0) hst).trans rfl)
  have cE := each_ask b bo bn bk bl g cap lv l w0 w hl hb0 hn hs h1 h2 h3 h4 h5 h6 hlo hA hlv hg hrow
  clear hst hl hs hA hrow hb0
  go_enter Tryz.func76, Tryz.ntmps76
  go_wp2_with fail
  refine cE.mono ?_
  rintro e w1 ⟨⟨v, rfl⟩, hJ1⟩
  go_wp2
  go_end0
  exact ⟨⟨_, rfl⟩, hJ1⟩
end Go.Proofs.YtgnfknjopafngaaGreatDoor
