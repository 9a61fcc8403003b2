import Derived.Test.YtgnfknjopafngaaGreatDoorKkz
import Derived.Test.YtgnfknjopafngaaGreatDoorKkad
import Derived.Test.YtgnfknjopafngaaGreatDoorKkb
namespace Go.Proofs.YtgnfknjopafngaaGreatDoor
open Go.RowKit
theorem take_more {l : List (Nat × List UInt8)} {j : Nat} (hj : j < l.length) : l.take (j + 1) = l.take j ++ [l[j]] := List.take_succ_eq_append_getElem hj
theorem copy_sec {w : World} {d g0 cg : Nat} {x : List UInt8} (hu : Sec w (d + 1) (.slice (some ⟨g0, 0, none⟩) 64 cg) x) (hd : d < w.heap.size) (ty : TypeId) :
    ∃ g c w', (Builtin.append_ #[131, 131] ty #[.slice none 0 0, .slice (some ⟨g0, 0, none⟩) 64 cg]).run Tryz.prog w = .ok (.slice (some ⟨g, 0, none⟩) 64 c) w' ∧ Sec w' (d + 1) (.slice (some ⟨g, 0, none⟩) 64 c) x ∧ Below w.heap.size w w' := by
  obtain ⟨i0, hi0, hz0, hz1, hz2⟩ := info_parts u8Info
  obtain ⟨g, c, e, h4, h5, h1, ⟨cur, h2⟩, h6, h3⟩ := hu
  cases e
  obtain ⟨v', w', hrun, r1, r2, _, r4⟩ := run_append_own_at (P := Tryz.prog) w (d + 1) 131 ty 5 i0 _ 1 1 Tryz.underlying131 hi0 hz0 hz1 hz2 rfl (by decide) (.slice none 0 0) 0 [] (World.ownsRow_nil _ _ _ _) ⟨g0, 0, none⟩ 64 cg (x.map byteV) (by simp [h3]) (fun j y hy => by
    rw [Addr.add_lit, Nat.zero_add]; exact h6 j y hy) (fun y hy => by obtain ⟨q, _, rfl⟩ := List.mem_map.1 hy; rfl) (by decide) (by decide) (by omega)
  have r1' := r1
  obtain ⟨_, ⟨rfl, h0⟩ | ⟨b, cap, cur', rfl, hb, hg, hnc, hcm, hcs, ht⟩⟩ := r1'
  · omega
  · refine ⟨b, cap, w', hrun, ⟨b, cap, rfl, by omega, hcm, hb, ⟨cur', hg⟩, fun j u hu => ?_, h3⟩, ⟨r2.os, r2.tape, r2.output, r2.size, fun k hk => r2.block k hk (fun e => by cases e)⟩⟩
    have hj : j < x.length := by
      have := (List.getElem?_eq_some_iff.1 hu).1
      simpa using this
    rw [r1.cellAt j (by omega)]
    simpa using hu
theorem Secs.secAt {w : World} {base : Nat} {v : Value} {l : List (List UInt8)} (h : Secs w base v l) {n : Nat} (hn : n < l.length) :
    ∃ b c g cg, v = .slice (some ⟨b, 0, none⟩) l.length c ∧ b < w.heap.size ∧ l.length ≤ c ∧ c ≤ maxLen ∧ w.cell? ⟨b, n, none⟩ = some (.slice (some ⟨g, 0, none⟩) 64 cg) ∧ Sec w base (.slice (some ⟨g, 0, none⟩) 64 cg) l[n] := by
  obtain ⟨vs, h1, h2, h3⟩ := h
  obtain ⟨u, k1, hsec⟩ := h3 n hn
  have hsec' := hsec
  obtain ⟨g, cg, rfl, _⟩ := hsec
  have h1' := h1
  obtain ⟨hl, ⟨rfl, h0⟩ | ⟨b, cap, cur, rfl, hb, hg, hnc, hcm, hcs, ht⟩⟩ := h1
  · omega
  · have hc := h1'.cellAt n (by omega)
    exact ⟨b, cap, g, cg, rfl, (Array.getElem?_eq_some_iff.1 hg).1, hnc, hcm, hc.trans k1, hsec'⟩
theorem take_set {H S : List (List UInt8)} {j : Nat} (h : S.length = H.length) (hj : j < H.length) : (H.take j ++ S.drop j).set j H[j] = H.take (j + 1) ++ S.drop (j + 1) := by
  rw [List.set_append_right _ _ (by rw [List.length_take]; omega), List.length_take, Nat.min_eq_left (by omega), Nat.sub_self]
  rw [List.drop_eq_getElem_cons (i := j) (by omega), List.set_cons_zero, List.take_succ_eq_append_getElem hj, List.append_assoc]
  rfl
set_option maxRecDepth 100000 in
set_option maxHeartbeats 8000000 in
theorem back_any (d : Nat) (mask : Int) (hv sv lv : Value) (D : M.Dk) (w : World) (h : DiskIs w d hv sv lv D) (hlt : ∀ p ∈ D.late, p.1 < D.held.length) (hlen : D.late.length ≤ 1000000) (hhl : D.seen.length = D.held.length) (h2 : D.held.length ≤ 256) :
    Calls Tryz.prog 54 #[.pointer (some ⟨d, 0, none⟩), .int .i64 mask] w fun e w' => (∃ v, e = .returned v) ∧ ∃ sel, (D.dead = false → ∀ i, sel i = true) ∧
      DiskIs w' d hv sv (.slice none 0 0) { held := M.putSome sel 0 D.late D.held, seen := M.putSome sel 0 D.late D.held, late := [], left := -1, dead := false } ∧ Chg (dFoot d hv sv lv) w w' := by
  obtain ⟨al, cl, el⟩ := h.late.form
  subst el
  obtain ⟨ah, ch, eh⟩ := h.held.form
  subst eh
  have HD0 : Hid (DiskIs w d (.slice ah D.held.length ch) sv (.slice al D.late.length cl) D) := h
  have HLt : Hid (∀ p ∈ D.late, p.1 < D.held.length) := hlt
  have s2 : w.cell? ⟨d, 2, none⟩ = some (.slice al D.late.length cl) := (cell_of_row w _ 2 _ _ (0, 0) h.blk).trans rfl
  obtain ⟨dd, hdd⟩ : ∃ b, D.dead = b := ⟨_, rfl⟩
  have HDD : Hid (D.dead = dd) := hdd
  have HS : Hid (D.seen.length = D.held.length) := hhl
  clear h hlt hdd hhl
  go_enter Tryz.func54, Tryz.ntmps54
  go_wp2
  go_loopw [4, 5, 12] (fun _ _ i wr => ∃ (j : Nat) (sel : Nat → Bool), i = .int .i64 j ∧ j ≤ D.late.length ∧ Hid (D.dead = false → ∀ i, sel i = true) ∧ Hid (DiskIs wr d (.slice ah D.held.length ch) sv (.slice al D.late.length cl) { D with held := M.putSome sel 0 (D.late.take j) D.held }) ∧ Hid (Chg (dFoot d (.slice ah D.held.length ch) sv (.slice al D.late.length cl)) w wr)) (fun _ _ i _ => D.late.length - (intOf i).toNat)
  case atStart => exact ⟨0, fun _ => true, rfl, Nat.zero_le _, fun _ _ => rfl, HD0, Chg.refl _ _⟩
  case round =>
    obtain ⟨j, sel, rfl, hj, HSel, HD, HC⟩ := hrel
    by_cases hjl : j < D.late.length
    · obtain ⟨b, c, g, cg, eb, hb, hc1, hc2, p0, p1, hsec⟩ := late_at HD.out.late hjl
      cases eb
      simp only at p0 p1 hsec
      have hnn : D.late[j].1 < (M.putSome sel 0 (D.late.take j) D.held).length := by
        rw [M.putSome_len]
        exact HLt.out _ (List.getElem_mem hjl)
      obtain ⟨hb0, hc0, g0, cg0, eh, hhb, hhc, hhc2, ph, -⟩ := HD.out.held.at hnn
      simp only at eh ph
      injection eh with e1 e2 e3
      subst e1 e3
      have q0 : wr.cell? ⟨d, 0, none⟩ = some (.slice (some ⟨hb0, 0, none⟩) D.held.length ch) := (cell_of_row wr _ 0 _ _ (0, 0) HD.out.blk).trans rfl
      have q4 : wr.cell? ⟨d, 4, none⟩ = some (.bool dd) := by rw [← HDD.out]; exact (cell_of_row wr _ 4 _ _ (0, 0) HD.out.blk).trans rfl
      rw [M.putSome_len] at hnn hhc
      have hfz : wr.frozen? ⟨hb0, D.late[j].1, none⟩ = false := by obtain ⟨cur, ht⟩ := HD.out.held.type hb0 rfl; exact frozen_of_row wr _ _ _ _ ht
      clear e2
      have hdl : d < wr.heap.size := (Array.getElem?_eq_some_iff.1 HD.out.blk).1
      generalize hx : D.late[j] = X at p0 p1 hsec hnn ph hfz
      obtain ⟨xn, xd⟩ := X
      simp only at p0 p1 hsec hnn ph hfz
      have hm1 : D.late.length ≤ 9223372036854775807 := by omega
      have HX : Hid (D.late[j] = (xn, xd)) := hx
      have hbx := World.block_lt_of_cell? _ _ p0
      have hdr : DiskIs wr d (.slice (some ⟨hb0, 0, none⟩) D.held.length ch) sv (.slice (some ⟨b, 0, none⟩) D.late.length cl) { D with held := M.putSome sel 0 (D.late.take j) D.held } := HD.out
      obtain ⟨selN, n1, n2⟩ := M.putSome_ext sel (D.late.take j) D.held (xn, xd) false
      obtain ⟨selY, y1, y2⟩ := M.putSome_ext sel (D.late.take j) D.held (xn, xd) true
      rw [← hx, ← take_more hjl, hx] at n1 y1
      rw [if_neg (by decide)] at n1
      rw [if_pos rfl] at y1
      have HNo : Hid (DiskIs (wr.alloc (.cells #[.int .i64 xn, .slice (some ⟨g, 0, none⟩) 64 cg] 146)) d (.slice (some ⟨hb0, 0, none⟩) D.held.length ch) sv (.slice (some ⟨b, 0, none⟩) D.late.length cl) { D with held := M.putSome selN 0 (D.late.take (j + 1)) D.held } ∧
          Chg (dFoot d (.slice (some ⟨hb0, 0, none⟩) D.held.length ch) sv (.slice (some ⟨b, 0, none⟩) D.late.length cl)) w (wr.alloc (.cells #[.int .i64 xn, .slice (some ⟨g, 0, none⟩) 64 cg] 146))) := by
        have hB : Below wr.heap.size wr (wr.alloc (.cells #[.int .i64 xn, .slice (some ⟨g, 0, none⟩) 64 cg] 146)) := (Below.refl _ _).alloc (Nat.le_refl _) _
        refine ⟨?_, HC.out.then (Chg.below (F := fun _ => False) hB) (fun _ _ f => f.elim)⟩
        rw [n1]
        exact hdr.below hB
      have HYes : Hid ((D.dead = false → ∀ i, selY i = true) ∧ DiskIs (((wr.setCell ⟨hb0, xn, none⟩ (.slice (some ⟨g, 0, none⟩) 64 cg)).alloc (.cells #[.int .i64 xn, .slice (some ⟨g, 0, none⟩) 64 cg] 146)).drew) d (.slice (some ⟨hb0, 0, none⟩) D.held.length ch) sv (.slice (some ⟨b, 0, none⟩) D.late.length cl) { D with held := M.putSome selY 0 (D.late.take (j + 1)) D.held } ∧
          Chg (dFoot d (.slice (some ⟨hb0, 0, none⟩) D.held.length ch) sv (.slice (some ⟨b, 0, none⟩) D.late.length cl)) w (((wr.setCell ⟨hb0, xn, none⟩ (.slice (some ⟨g, 0, none⟩) 64 cg)).alloc (.cells #[.int .i64 xn, .slice (some ⟨g, 0, none⟩) 64 cg] 146)).drew)) := by
        have h' : DiskIs wr d (.slice (some ⟨hb0, 0, none⟩) (M.putSome sel 0 (D.late.take j) D.held).length ch) sv (.slice (some ⟨b, 0, none⟩) D.late.length cl) { D with held := M.putSome sel 0 (D.late.take j) D.held } := by rw [M.putSome_len]; exact hdr
        obtain ⟨r1, r2⟩ := DiskIs.putHeld (D := { D with held := M.putSome sel 0 (D.late.take j) D.held }) (n := xn) h' (.slice (some ⟨g, 0, none⟩) 64 cg) xd hsec
        simp only at r1
        rw [M.putSome_len] at r1
        have hB : Below (wr.setCell ⟨hb0, xn, none⟩ (.slice (some ⟨g, 0, none⟩) 64 cg)).heap.size (wr.setCell ⟨hb0, xn, none⟩ (.slice (some ⟨g, 0, none⟩) 64 cg)) (((wr.setCell ⟨hb0, xn, none⟩ (.slice (some ⟨g, 0, none⟩) 64 cg)).alloc (.cells #[.int .i64 xn, .slice (some ⟨g, 0, none⟩) 64 cg] 146)).drew) := ((Below.refl _ _).alloc (Nat.le_refl _) _).drew
        refine ⟨fun h => y2 rfl (HSel.out h), ?_, (HC.out.then (Chg.grown r2 (fun k e _ => e)) (fun k _ e => .inr (.inl e))).then (Chg.below (F := fun _ => False) hB) (fun _ _ f => f.elim)⟩
        rw [y1]
        exact r1.below hB
      clear hx hsec hdr n1 n2 y1 y2
      cases dd with
      | false =>
        go_wp2
        go_region
        go_wp2
        go_roundw
        case rel => exact ⟨j + 1, selY, by go_num, by omega, HYes.out.1, HYes.out.2.1, HYes.out.2.2⟩
        case measure => simp [intOf]; omega
      | true =>
        have HNd : Hid (D.dead = false → ∀ i, selN i = true) := fun e => by rw [HDD.out] at e; cases e
        go_wp2
        · go_region
          go_wp2
          go_roundw
          case rel => exact ⟨j + 1, selY, by go_num, by omega, HYes.out.1, HYes.out.2.1, HYes.out.2.2⟩
          case measure => simp [intOf]; omega
        · refine ⟨⟨j + 1, selN, by go_num, by omega, HNd, HNo.out.1, HNo.out.2⟩, ?_⟩
          simp [intOf]
          omega
    · have hjj : j = D.late.length := by omega
      subst hjj
      have hW0 := HD.out
      rw [List.take_length] at hW0
      have q2 : wr.cell? ⟨d, 2, none⟩ = some (.slice al D.late.length cl) := (cell_of_row wr _ 2 _ _ (0, 0) hW0.blk).trans rfl
      have q3 : wr.cell? ⟨d, 3, none⟩ = some (.int .i64 D.left) := (cell_of_row wr _ 3 _ _ (0, 0) hW0.blk).trans rfl
      have q4 : wr.cell? ⟨d, 4, none⟩ = some (.bool D.dead) := (cell_of_row wr _ 4 _ _ (0, 0) hW0.blk).trans rfl
      have q0 : wr.cell? ⟨d, 0, none⟩ = some (.slice ah D.held.length ch) := (cell_of_row wr _ 0 _ _ (0, 0) hW0.blk).trans rfl
      have qf : ∀ o, wr.frozen? ⟨d, o, none⟩ = false := fun o => frozen_of_row wr _ _ _ _ hW0.blk
      clear hW0 s2
      go_wp2
      obtain ⟨W, hWe⟩ : ∃ W, ((wr.setCell ⟨d, 2, none⟩ (.slice none 0 0)).setCell ⟨d, 3, none⟩ (.int .i64 (-1))).setCell ⟨d, 4, none⟩ (.bool false) = W := ⟨_, rfl⟩
      rw [hWe]
      generalize hH : M.putSome sel 0 D.late D.held = H
      have hHl : H.length = D.held.length := by rw [← hH, M.putSome_len]
      have HW : Hid (DiskIs W d (.slice ah D.held.length ch) sv (.slice none 0 0) { held := H, seen := D.seen, late := [], left := -1, dead := false } ∧ Chg (dFoot d (.slice ah D.held.length ch) sv (.slice al D.late.length cl)) w W) := by
        have hW0 := HD.out
        rw [List.take_length, hH] at hW0
        obtain ⟨r1, r2⟩ := hW0.noLate
        have g2 : (wr.setCell ⟨d, 2, none⟩ (.slice none 0 0)).grownBy W (some d) := by
          rw [← hWe]
          refine ⟨rfl, rfl, rfl, by simp, fun k _ hk => ?_⟩
          have hne : k ≠ d := fun e => hk (by rw [e])
          rw [Below.heap_setCell _ _ _ _ hne, Below.heap_setCell _ _ _ _ hne]
        have hb := heap_setCell_same _ d 4 _ _ (.bool false) (heap_setCell_same _ d 3 _ _ (.int .i64 (-1)) r1.blk)
        rw [hWe] at hb
        refine ⟨r1.ctl g2 (-1) false hb, (HC.out.then (Chg.grown r2 (fun k e _ => e)) (fun k _ e => .inl (Option.some.inj e).symm)).then (Chg.grown g2 (fun k e _ => e)) (fun k _ e => .inl (Option.some.inj e).symm)⟩
      have HHe : Hid (M.putSome sel 0 D.late D.held = H) := hH
      clear hWe hH q0 q2 q3 q4 qf HD HC HD0
      go_loopw [6, 54] (fun _ i wr => ∃ (j : Nat), i = .int .i64 j ∧ j ≤ D.held.length ∧ Hid (DiskIs wr d (.slice ah D.held.length ch) sv (.slice none 0 0) { held := H, seen := H.take j ++ D.seen.drop j, late := [], left := -1, dead := false }) ∧ Hid (Chg (dFoot d (.slice ah D.held.length ch) sv (.slice al D.late.length cl)) w wr)) (fun _ i _ => D.held.length - (intOf i).toNat)
      case atStart => exact ⟨0, rfl, Nat.zero_le _, HW.out.1, HW.out.2⟩
      case round =>
        obtain ⟨j, rfl, hj, HD, HC⟩ := hrel
        by_cases hjl : j < D.held.length
        · have hjH : j < H.length := by omega
          have hSl : (H.take j ++ D.seen.drop j).length = D.held.length := by
            rw [List.length_append, List.length_take, List.length_drop, HS.out]
            omega
          obtain ⟨hb0, hc0, g0, cg0, eh, hhb, hhc, hhc2, ph, hsec⟩ := HD.out.held.secAt (n := j) hjH
          simp only at eh ph hsec
          rw [hHl] at eh hhc
          injection eh with e1 e2 e3
          subst e1 e3
          obtain ⟨sb, sc, _, _, es, hsb, hsc, hsc2, ps, -⟩ := HD.out.seen.secAt (n := j) (by rw [hSl]; exact hjl)
          simp only at es ps
          rw [hSl] at es hsc
          subst es
          have hdl : d < wr.heap.size := (Array.getElem?_eq_some_iff.1 HD.out.blk).1
          obtain ⟨g, c, w', hrun, hs', hB''⟩ := copy_sec (w := wr.drew) hsec hdl 131
          have hB' : Below wr.heap.size wr w' := ((Below.refl _ wr).drew).trans hB''
          have hD' := HD.out.below hB'
          have q0 : wr.cell? ⟨d, 0, none⟩ = some (.slice (some ⟨hb0, 0, none⟩) D.held.length ch) := (cell_of_row wr _ 0 _ _ (0, 0) HD.out.blk).trans rfl
          have q1 : wr.cell? ⟨d, 1, none⟩ = some (.slice (some ⟨sb, 0, none⟩) D.held.length sc) := (cell_of_row wr _ 1 _ _ (0, 0) HD.out.blk).trans rfl
          have q1' : w'.cell? ⟨d, 1, none⟩ = some (.slice (some ⟨sb, 0, none⟩) D.held.length sc) := (cell_of_row w' _ 1 _ _ (0, 0) hD'.blk).trans rfl
          have ps' : w'.cell? ⟨sb, j, none⟩ = _ := (hB'.cell (p := ⟨sb, j, none⟩) hsb).trans ps
          have pf' : w'.frozen? ⟨sb, j, none⟩ = false := by obtain ⟨cur, ht⟩ := hD'.seen.type sb rfl; exact frozen_of_row w' _ _ _ _ ht
          have HR : Hid ((Builtin.append_ #[131, 131] 131 #[.slice none 0 0, .slice (some ⟨g0, 0, none⟩) 64 cg0]).run Tryz.prog wr.drew = .ok (.slice (some ⟨g, 0, none⟩) 64 c) w') := hrun
          have HN : Hid (DiskIs (w'.setCell ⟨sb, j, none⟩ (.slice (some ⟨g, 0, none⟩) 64 c)) d (.slice (some ⟨hb0, 0, none⟩) D.held.length ch) (.slice (some ⟨sb, 0, none⟩) D.held.length sc) (.slice none 0 0) { held := H, seen := H.take (j + 1) ++ D.seen.drop (j + 1), late := [], left := -1, dead := false } ∧
              Chg (dFoot d (.slice (some ⟨hb0, 0, none⟩) D.held.length ch) (.slice (some ⟨sb, 0, none⟩) D.held.length sc) (.slice al D.late.length cl)) w (w'.setCell ⟨sb, j, none⟩ (.slice (some ⟨g, 0, none⟩) 64 c))) := by
            have h' : DiskIs w' d (.slice (some ⟨hb0, 0, none⟩) D.held.length ch) (.slice (some ⟨sb, 0, none⟩) (H.take j ++ D.seen.drop j).length sc) (.slice none 0 0) { held := H, seen := H.take j ++ D.seen.drop j, late := [], left := -1, dead := false } := by rw [hSl]; exact hD'
            obtain ⟨r1, r2⟩ := DiskIs.putSeen (D := { held := H, seen := H.take j ++ D.seen.drop j, late := [], left := -1, dead := false }) (n := j) h' (.slice (some ⟨g, 0, none⟩) 64 c) H[j] hs'
            simp only at r1
            rw [hSl, take_set (HS.out.trans hHl.symm) hjH] at r1
            exact ⟨r1, (HC.out.then (Chg.below (F := fun _ => False) hB') (fun _ _ f => f.elim)).then (Chg.grown r2 (fun k e _ => e)) (fun k _ e => .inr (.inr (.inl e)))⟩
          clear hrun hs' hD' hsec hSl hB' hB'' HW
          go_wp2
          go_region_law (refine step_append_eq rfl (.const (.slice none 0 0)) (.tmp 68) 131 rfl _ _ _ _ (by simp [Act.eval]) (by simp [Act.eval]) HR.out ?_)
          all_goals
            go_wp2
            refine ⟨⟨j + 1, by go_num, by omega, HN.out.1, HN.out.2⟩, ?_⟩
            simp [intOf]
            omega
        · have hjj : j = D.held.length := by omega
          have HE : Hid (DiskIs wr d (.slice ah D.held.length ch) sv (.slice none 0 0) { held := H, seen := H, late := [], left := -1, dead := false }) := by
            have := HD.out
            rw [hjj, ← hHl, List.take_length, hHl, ← HS.out, List.drop_length, List.append_nil] at this
            rw [HS.out, ← hHl] at this
            rw [← hHl]
            exact this
          go_wp2
          go_end0
          refine ⟨⟨_, rfl⟩, sel, HSel.out, ?_, HC.out⟩
          rw [HHe.out]
          exact HE.out
end Go.Proofs.YtgnfknjopafngaaGreatDoor
namespace Go.Proofs.YtgnfknjopafngaaGreatDoor
open Go.RowKit Go.Maps
theorem SessAt.cell0 {w : World} {x d : Nat} {sv : Value} (h : SessAt w x d sv) : w.cell? ⟨x, 0, none⟩ = some (.pointer (some ⟨d, 0, none⟩)) := (cell_of_row w _ 0 _ _ (0, 0) h).trans rfl
theorem SessAt.chg {F : Nat → Prop} {w w' : World} {x d : Nat} {sv : Value} (h : SessAt w x d sv) (hc : Chg F w w') (hn : ¬ F x) : SessAt w' x d sv := (hc.block x (Array.getElem?_eq_some_iff.1 h).1 hn).trans h
theorem SessAt.off {w : World} {x d : Nat} {s0 hv sv lv : Value} {D : M.Dk} (h : SessAt w x d s0) (hD : DiskIs w d hv sv lv D) : ¬ dFoot d hv sv lv x := by
  unfold SessAt at h
  rintro (rfl | e | e | e)
  · rw [hD.blk] at h; cases h
  · obtain ⟨c, hc⟩ := hD.held.type x e; rw [hc] at h; cases h
  · obtain ⟨c, hc⟩ := hD.seen.type x e; rw [hc] at h; cases h
  · obtain ⟨c, hc⟩ := hD.late.type x e; rw [hc] at h; cases h
set_option maxRecDepth 100000 in
set_option maxHeartbeats 1000000 in
theorem sCut_any (x d : Nat) (n : Int) (s0 hv sv lv : Value) (D : M.Dk) (w : World) (hx : SessAt w x d s0) (h : DiskIs w d hv sv lv D) :
    Calls Tryz.prog 31 #[.pointer (some ⟨x, 0, none⟩), .int .i64 n] w fun e w' => (∃ v, e = .returned v) ∧ DiskIs w' d hv sv lv { D with left := max n (-1) } ∧ w.grownBy w' (some d) := by
  have q0 := hx.cell0
  have q3 : w.cell? ⟨d, 3, none⟩ = some (.int .i64 D.left) := (cell_of_row w _ 3 _ _ (0, 0) h.blk).trans rfl
  have f3 : w.frozen? ⟨d, 3, none⟩ = false := frozen_of_row w _ _ _ _ h.blk
  have HD : Hid (DiskIs w d hv sv lv D) := h
  clear h hx
  go_enter Tryz.func31, Tryz.ntmps31
  go_wp2
  go_end0
  have hg := setCell_grown w d 3 (.int .i64 (max n (-1)))
  exact ⟨⟨_, rfl⟩, HD.out.ctl hg (max n (-1)) D.dead (heap_setCell_same w d 3 _ _ _ HD.out.blk), hg⟩
set_option maxRecDepth 100000 in
set_option maxHeartbeats 1000000 in
theorem sLost_any (x d : Nat) (s0 hv sv lv : Value) (D : M.Dk) (w : World) (hx : SessAt w x d s0) (h : DiskIs w d hv sv lv D) :
    Calls Tryz.prog 32 #[.pointer (some ⟨x, 0, none⟩)] w fun e w' => e = .returned (.bool D.dead) ∧ w' = w := by
  have q0 := hx.cell0
  have q4 : w.cell? ⟨d, 4, none⟩ = some (.bool D.dead) := (cell_of_row w _ 4 _ _ (0, 0) h.blk).trans rfl
  clear h hx
  go_enter Tryz.func32, Tryz.ntmps32
  go_wp2
  go_ret
  exact ⟨rfl, rfl⟩
theorem Ready.chg {F : Nat → Prop} {w w' : World} (h : Ready w) (hc : Chg F w w') (hF : ∀ k, F k → 1 < k) : Ready w' := by
  obtain ⟨h1, m, h2⟩ := h
  exact ⟨hc.cell h1 (fun f => by have h3 : 1 < 0 := hF 0 f; omega), m, hc.cell h2 (fun f => Nat.lt_irrefl _ (hF _ f))⟩
def sFoot (x d : Nat) (hv sv lv : Value) (k : Nat) : Prop := k = x ∨ dFoot d hv sv lv k
structure Held (l : List M.Pk) : Prop where
  back : ∀ p ∈ l, M.Back p
  apart : M.Apart l
  size : M.sizeS l ≤ 8192
  few : l.length ≤ 1000
  needs : ∀ p ∈ l, ∀ y ∈ p.needs, y.length ≤ 15
set_option maxRecDepth 100000 in
set_option maxHeartbeats 4000000 in
theorem reopen_any (x d n : Nat) (mask after : Int) (s0 hv sv lv : Value) (D : M.Dk) (Q : List M.Pk → Prop) (w : World) (hR : Ready w) (hx : SessAt w x d s0) (h : DiskIs w d hv sv lv D) (h1 : 16 ≤ n) (h2 : n ≤ 256)
    (hlt : ∀ p ∈ D.late, p.1 < D.held.length) (hlen : D.late.length ≤ 1000000) (hhl : D.seen.length = n) (hhn : D.held.length = n)
    (hF : ∀ k, sFoot x d hv sv lv k → 1 < k)
    (hL : ∀ sel : Nat → Bool, (D.dead = false → ∀ i, sel i = true) → ∃ half l, Q l ∧ Held l ∧ M.Lies (M.putSome sel 0 D.late D.held) n half (M.packed l)) :
    Calls Tryz.prog 33 #[.pointer (some ⟨x, 0, none⟩), .int .i64 mask, .int .i64 after] w fun e w' => ∃ s k b half l H, e = .returned okV ∧ SessAt w' x d (.pointer (some ⟨s, 0, none⟩)) ∧ StoreAt w' s k b ∧ KnownAt w' k d half ∧ SetIn w' b l ∧ Q l ∧ Held l ∧
      DiskIs w' d hv sv (.slice none 0 0) { held := H, seen := H, late := [], left := max after (-1), dead := false } ∧ M.Lies H n half (M.packed l) ∧ w.heap.size ≤ s ∧ w.heap.size ≤ k ∧ Chg (sFoot x d hv sv lv) w w' := by
  generalize hA : w.alloc (.cells okC 23) = A
  have hB : Below w.heap.size w A := by rw [← hA]; exact (Below.refl _ w).alloc (Nat.le_refl _) _
  have hr : A.heap[w.heap.size]? = some (.cells okC 23 (0, 0)) := by rw [← hA]; exact heap_alloc_new w _
  have hAs : w.heap.size < A.heap.size := (Array.getElem?_eq_some_iff.1 hr).1
  have hxl : x < w.heap.size := (Array.getElem?_eq_some_iff.1 hx).1
  have hxA : SessAt A x d s0 := (hB.block x hxl).trans hx
  have hDA : DiskIs A d hv sv lv D := h.below hB
  have hft : ∀ k, dFoot d hv sv lv k → k < w.heap.size := fun k hk => (h.lt k hk).2
  have hxd : ¬ dFoot d hv sv lv x := hx.off h
  have q0 := hxA.cell0
  have cB := back_any d mask hv sv lv D A hDA hlt hlen (by rw [hhl, hhn]) (by omega)
  have HRd : Hid (Ready w) := hR
  have HXA : Hid (SessAt A x d s0) := hxA
  have HRr : Hid (A.heap[w.heap.size]? = some (.cells okC 23 (0, 0))) := hr
  have HL : Hid _ := hL
  clear hr hx h hxA hDA hR hL hlt
  go_enter Tryz.func33, Tryz.ntmps33
  go_wp2_with fail
  refine cB.mono ?_
  rintro e w1 ⟨⟨v1, rfl⟩, sel, hsel, hD1, hC1⟩
  obtain ⟨half, l, hQ, hH, hLies⟩ := HL.out sel hsel
  generalize M.putSome sel 0 D.late D.held = H at hD1 hLies
  have hx1 : SessAt w1 x d s0 := HXA.out.chg hC1 hxd
  have hft1 : ∀ k, dFoot d hv sv (.slice none 0 0) k → dFoot d hv sv lv k := fun k hk => by
    rcases hk with hk | hk | hk | hk
    · exact .inl hk
    · exact .inr (.inl hk)
    · exact .inr (.inr (.inl hk))
    · cases hk
  have cC := sCut_any x d after s0 hv sv _ _ w1 hx1 hD1
  have HX1 : Hid (SessAt w1 x d s0) := hx1
  have HC1 : Hid (Chg (dFoot d hv sv lv) A w1) := hC1
  clear hD1 hx1 hC1 cB q0 hA hsel HL
  go_wp2_with fail
  refine cC.mono ?_
  rintro e w2 ⟨⟨v2, rfl⟩, hD2, hG2⟩
  have hC2 : Chg (sFoot x d hv sv lv) w w2 := (((Chg.below hB).then HC1.out (fun k _ e => .inr e))).then (Chg.grown (F := fun k => k = d) hG2 (fun k e _ => (Option.some.inj e).symm)) (fun k _ e => .inr (.inl e))
  have hx2 : SessAt w2 x d s0 := HX1.out.chg (Chg.grown (F := fun k => k = d) hG2 (fun k e _ => (Option.some.inj e).symm)) (fun e => hxd (.inl e))
  have cO := open_any x d n half s0 hv sv _ _ l w2 (HRd.out.chg hC2 hF) hx2 hD2 hLies h1 h2 hH.back hH.apart hH.size hH.few hH.needs
  have HD2 : Hid (DiskIs w2 d hv sv (.slice none 0 0) { held := H, seen := H, late := [], left := max after (-1), dead := false } ∧ Chg (sFoot x d hv sv lv) w w2 ∧ SessAt w2 x d s0 ∧ w2.heap[w.heap.size]? = some (.cells okC 23 (0, 0))) := ⟨hD2, hC2, hx2, by
    refine (hG2.block _ (Nat.lt_of_lt_of_le hAs HC1.out.size) (fun e => ?_)).trans ((HC1.out.block _ hAs (fun e => ?_)).trans HRr.out)
    · have := hft d (.inl rfl)
      have := Option.some.inj e
      omega
    · have := hft _ e
      omega⟩
  clear hD2 hG2 hC2 hx2 cC
  go_wp2_with fail
  refine cO.mono ?_
  rintro e w3 ⟨s, k, b, rfl, t1, t2, t3, t4, t5, t6, hG3⟩
  obtain ⟨hD2, hC2, hx2, hr2⟩ := HD2.out
  have hs2 := hC2.size
  have hl2 : w.heap.size < w2.heap.size := (Array.getElem?_eq_some_iff.1 hr2).1
  have hc3 : Chg (fun k => k = x) w2 w3 := Chg.grown hG3 (fun k e _ => (Option.some.inj e).symm)
  have hr3 : w3.heap[w.heap.size]? = some (.cells okC 23 (0, 0)) := (hc3.block _ hl2 (fun e => by omega)).trans hr2
  obtain ⟨z0, z1, z2, z3, zf⟩ := okC_cell hr3
  have HT : Hid (SessAt w3 x d (.pointer (some ⟨s, 0, none⟩)) ∧ StoreAt w3 s k b ∧ KnownAt w3 k d half ∧ SetIn w3 b l ∧ w2.heap.size ≤ s ∧ w2.heap.size ≤ k) := ⟨t1, t2, t3, t4, t5, t6⟩
  have HE : Hid (Chg (fun k => k = x) w2 w3 ∧ w3.heap[w.heap.size]? = some (.cells okC 23 (0, 0))) := ⟨hc3, hr3⟩
  clear t1 t2 t3 t4 t5 t6 hG3 hD2 hC2 hx2 hr2 hc3 hr3 cO
  go_wp2
  have G := grown4 w3 w.heap.size (.int .i64 0) (.int .i64 0) (.int .i64 0) (.string ⟨#[]⟩)
  obtain ⟨t1, t2, t3, t4, t5, t6⟩ := HT.out
  obtain ⟨hD2, hC2, hx2, hr2⟩ := HD2.out
  obtain ⟨hc3, hr3⟩ := HE.out
  have hcG : Chg (fun k => k = w.heap.size) w3 _ := Chg.grown G (fun k e _ => (Option.some.inj e).symm)
  have nt : NoText (fun i => i = w.heap.size) w3 := NoText.one hr3 (fun s e => by cases e) (fun a n p e => by cases e)
  have hD3 : DiskIs w3 d hv sv (.slice none 0 0) { held := H, seen := H, late := [], left := max after (-1), dead := false } := hD2.chg hc3 (fun k e cur fz => by
    subst e
    unfold SessAt at hx2
    rw [hx2]
    intro e
    cases e) (fun k hk e => hxd (by subst e; exact hft1 _ hk))
  refine bodyPost_ret (v := okV) (by simp [results, Tryz.results33, go_sem, z0, z1, z2, z3]) rfl ⟨s, k, b, half, l, H, rfl, ?_, ?_, ?_, ?_, hQ, hH, ?_, hLies, by omega, by omega, ?_⟩
  · exact t1.chg hcG (fun e => by omega)
  · exact (hcG.block s (Array.getElem?_eq_some_iff.1 t2).1 (fun e => by omega)).trans t2
  · exact (hcG.block k (Array.getElem?_eq_some_iff.1 t3).1 (fun e => by omega)).trans t3
  · exact t4.chg hcG nt hH.needs
  · exact hD3.chg hcG (fun k e cur fz => by subst e; rw [hr3]; intro e; cases e) (fun k hk e => by have := hft _ (hft1 _ hk); omega)
  · exact (hC2.then hc3 (fun k _ e => .inl e)).then hcG (fun k hk e => by omega)
end Go.Proofs.YtgnfknjopafngaaGreatDoor
