import Derived.Test.YtgnfknjopafngaaGreatDoorPlK
import Derived.Test.YtgnfknjopafngaaGreatDoorFmQ
import Derived.Test.YtgnfknjopafngaaGreatDoorFmI
/-
  THE CODE, WALKED: readAll.
-/
namespace Go.Proofs.YtgnfknjopafngaaGreatDoor
open Go.RowKit

theorem infoPkC : (Tryz.prog.info? 108).map (fun i => (i.zero, i.size, i.bytes)) = some (some (.agg #[.string ⟨#[]⟩, .string ⟨#[]⟩, .slice none 0 0, .slice none 0 0, .slice none 0 0]), 5, 104) := by kernel_rfl
/-- An error that is a Fault. -/
def ErrIs (f : M.Fa) (w : World) (v : Value) : Prop := ∃ fb, v = .iface 112 (.pointer (some ⟨fb, 0, none⟩)) ∧ FaultAt w fb f.kind f.which f.line ⟨f.name.toArray⟩
theorem ErrIs.below {f : M.Fa} {w w' : World} {v : Value} (h : ErrIs f w v) (hb : Below w.heap.size w w') : ErrIs f w' v := by
  obtain ⟨fb, e, h⟩ := h
  have hl := h.lt
  exact ⟨fb, e, (hb.cell (p := ⟨fb, 0, none⟩) hl).trans h.c0, (hb.cell (p := ⟨fb, 1, none⟩) hl).trans h.c1, (hb.cell (p := ⟨fb, 2, none⟩) hl).trans h.c2, (hb.cell (p := ⟨fb, 3, none⟩) hl).trans h.c3⟩
def RAllPost (R : Sum M.Fa (List M.Pk)) (w : World) (e : Ending) (w' : World) : Prop :=
  Below w.heap.size w w' ∧ match R with
    | .inl f => ∃ ev, e = .returned (.tuple #[.slice none 0 0, ev]) ∧ ErrIs f w' ev
    | .inr l => ∃ v, e = .returned (.tuple #[v, .nilIface]) ∧ PksIn w' v l
theorem fault_new {w : World} (k b c : Nat) (N : ByteArray) (t : TypeId) : FaultAt (w.alloc (.cells #[.int .i64 k, .int .i64 b, .int .i64 c, .string N] t)) w.heap.size k b c N :=
  ⟨new_at w [.int .i64 k, .int .i64 b, .int .i64 c, .string N] t 0 _ rfl, new_at w [.int .i64 k, .int .i64 b, .int .i64 c, .string N] t 1 _ rfl, new_at w [.int .i64 k, .int .i64 b, .int .i64 c, .string N] t 2 _ rfl, new_at w [.int .i64 k, .int .i64 b, .int .i64 c, .string N] t 3 _ rfl⟩

theorem fault_drew {w : World} {fb k b c : Nat} {N : ByteArray} (h : FaultAt w fb k b c N) : FaultAt w.drew fb k b c N := ⟨h.c0, h.c1, h.c2, h.c3⟩

set_option maxRecDepth 100000 in
set_option maxHeartbeats 8000000 in
theorem readAll_any (xv : Value) (texts : List ByteArray) (w : World) (hM : MaxIs w) (hE : ErrLaid w) (hx : StrsIn w xv texts) (hxn : texts.length ≤ 20000) (hxs : ∀ t ∈ texts, t.size ≤ 8192) :
    Calls Tryz.prog 187 #[xv] w (RAllPost (M.readAllS (texts.map fun t => t.data.toList) 0 []) w) := by
  obtain ⟨i0, hi0, hz0, hz1, hz2⟩ := info_parts infoPkC
  obtain ⟨ax, cx, ex⟩ := hx.form
  subst ex
  have HX : Hid (StrsIn w (.slice ax texts.length cx) texts) := hx
  have HXS : Hid (∀ t ∈ texts, t.size ≤ 8192) := hxs
  have HMx : Hid (MaxIs w) := hM
  have HEr : Hid (ErrLaid w) := hE
  clear hx hxs hM hE
  go_enter Tryz.func187, Tryz.ntmps187
  go_wp2
  go_loopw [4, 5, 6, 7, 8, 9, 12] (fun fv _ _ _ _ _ i wr => ∃ (k : Nat) (fresh : List M.Pk) (xs : List Value), i = .int .i64 k ∧ k ≤ texts.length ∧ Below w.heap.size w wr ∧ wr.ownsRow w.heap.size 108 5 fv fresh.length xs ∧ PkRowG fv.ownBlock wr fresh xs ∧ Hid (fresh.length = k) ∧ Hid (M.readAllS ((texts.take k).map fun t => t.data.toList) 0 [] = .inr fresh)) (fun _ _ _ _ _ _ i _ => texts.length - (intOf i).toNat)
  case atStart => exact ⟨0, [], [], rfl, Nat.zero_le _, Below.refl _ _, World.ownsRow_nil _ _ _ _, rfl, rfl, rfl⟩
  case round =>
    obtain ⟨k, fresh, xs, rfl, hk, hBr, hown, hrow, hfl, HR⟩ := hrel
    obtain ⟨af, cf, ef⟩ := own_form hown
    subst ef
    have HOwn : Hid (wr.ownsRow w.heap.size 108 5 (.slice af fresh.length cf) fresh.length xs) := hown
    have HRow : Hid (PkRowG (Value.slice af fresh.length cf).ownBlock wr fresh xs) := hrow
    clear hown hrow
    by_cases hlt : k < texts.length
    · obtain ⟨bx, rfl, hbx, hcapx, hcx⟩ := HX.out.cellAt (by omega)
      have cx0 : wr.cell? ⟨bx, k, none⟩ = some (.string texts[k]) := (hBr.cell (p := ⟨bx, k, none⟩) hbx).trans (hcx k _ (by simp [hlt]))
      have hts : texts[k].size ≤ 8192 := HXS.out _ (List.getElem_mem hlt)
      generalize hT : texts[k] = T at cx0 hts
      have HT : Hid (texts[k] = T) := hT
      have cR := fun wx hm => pRead_any T wx hm hts
      clear hcx hT
      go_wp2_with fail
      refine (cR _ (HMx.out.below hBr)).mono ?_
      rintro e w2 ⟨hB2, hm⟩
      have hBw2 : Below w.heap.size w w2 := bt hBr hB2
      clear cR
      cases hr : M.readS T.data.toList with
      | inl n =>
        rw [hr] at hm
        obtain ⟨fb, rfl, hF⟩ := hm
        have HP : Hid (M.readAllS (texts.map fun t => t.data.toList) 0 [] = .inl ⟨1, k, n, []⟩) := by
          show _ = _
          rw [texts_split hlt, M.readAll_snoc _ _ _ _ _ _ HR.out, HT.out, hr]
          simp [Nat.min_eq_left (Nat.le_of_lt hlt)]
        generalize hW3 : (w2.alloc (.cells #[.string ⟨#[]⟩, .string ⟨#[]⟩, .slice none 0 0, .slice none 0 0, .slice none 0 0] 108)).alloc (.cells #[.pointer none] 112) = W3
        have hB3 : Below w2.heap.size w2 W3 := by rw [← hW3]; exact bt ((Below.refl _ w2).alloc (Nat.le_refl _) _) ((Below.refl _ _).alloc (Nat.le_refl _) _)
        have s3 : W3.heap.size = w2.heap.size + 2 := by rw [← hW3]; simp
        have t3 : W3.cell? ⟨w2.heap.size + 1, 0, none⟩ = some (.pointer none) := by
          rw [← hW3]
          simp
        have f3 : W3.frozen? ⟨w2.heap.size + 1, 0, none⟩ = false := by
          rw [← hW3]
          simp
        have hEl : ErrLaid W3 := HEr.out.below (bt hBw2 hB3)
        have cA := as_hit ⟨fb, 0, none⟩ ⟨w2.heap.size + 1, 0, none⟩ (.pointer none) W3 hEl t3 f3
        have hfb : fb < w2.heap.size := hF.lt
        have HF : Hid (FaultAt w2 fb 1 0 n ⟨#[]⟩) := hF
        subst hW3
        clear hEl t3 f3 hF hr HRow HOwn HR
        go_wp2_with fail
        refine cA.mono ?_
        rintro e w4 ⟨rfl, W, hW, hw4⟩
        have hsz : w2.heap.size + 1 < W.heap.size := by have := hW.size; rw [s3] at this; omega
        have hBW : Below w2.heap.size w2 W := bt hB3 hW
        have qf : w4.cell? ⟨w2.heap.size + 1, 0, none⟩ = some (.pointer (some ⟨fb, 0, none⟩)) := by
          rw [hw4]
          refine World.cell?_setCell_same _ _ _ (u := .pointer none) ((hW.cell (p := ⟨w2.heap.size + 1, 0, none⟩) (by show w2.heap.size + 1 < _; rw [s3]; omega)).trans ?_)
          simp
        have hp : ∀ o, w4.cell? ⟨fb, o, none⟩ = w2.cell? ⟨fb, o, none⟩ := fun o => by
          rw [hw4, cell_set_block _ _ _ _ _ _ (by omega)]
          exact hBW.cell (p := ⟨fb, o, none⟩) hfb
        have p0 := (hp 0).trans HF.out.c0
        have p2 := (hp 2).trans HF.out.c2
        have hB4 : Below w.heap.size w w4 := by rw [hw4]; exact (bt hBw2 hBW).setCell (by show w.heap.size ≤ w2.heap.size + 1; have := hBw2.size; omega) _
        clear hp hw4 cA hW hBW s3 hsz
        go_wp2
        go_region
        all_goals
          go_wp2
          refine bodyPost_ret (v := .tuple #[.slice none 0 0, .iface 112 (.pointer (some ⟨w4.heap.size, 0, none⟩))]) (by simp [results, Tryz.results187, go_sem]) rfl ⟨?_, ?_⟩
          · exact below_drewN (hB4.alloc hB4.size _) 1
          · rw [HP.out]
            exact ⟨_, rfl, _, rfl, fault_drew (fault_new (w := w4) 1 k n ⟨#[]⟩ 117)⟩
      | inr p =>
        rw [hr] at hm
        obtain ⟨v, rfl, hv⟩ := hm
        obtain ⟨nv, bv, fv, rfl, p1, p2, p3⟩ := hv
        obtain ⟨x1, c1, e1⟩ := p1.form
        obtain ⟨x2, c2, e2⟩ := p2.form
        obtain ⟨x3, c3, e3⟩ := p3.form
        subst e1 e2 e3
        generalize hW3 : (w2.alloc (.cells #[.string ⟨p.name.toArray⟩, .string ⟨p.ver.toArray⟩, .slice x1 p.needs.length c1, .slice x2 p.bars.length c2, .slice x3 p.files.length c3] 108)).alloc (.cells #[.pointer none] 112) = W3
        have HB3 : Hid (Below w2.heap.size w2 W3) := by rw [← hW3]; exact bt ((Below.refl _ w2).alloc (Nat.le_refl _) _) ((Below.refl _ _).alloc (Nat.le_refl _) _)
        have HC3 : Hid (∀ j u, [Value.string ⟨p.name.toArray⟩, .string ⟨p.ver.toArray⟩, .slice x1 p.needs.length c1, .slice x2 p.bars.length c2, .slice x3 p.files.length c3][j]? = some u → W3.cell? ⟨w2.heap.size, j, none⟩ = some u) := by
          rw [← hW3]
          intro j u hu
          have h1 := new_at w2 [.string ⟨p.name.toArray⟩, .string ⟨p.ver.toArray⟩, .slice x1 p.needs.length c1, .slice x2 p.bars.length c2, .slice x3 p.files.length c3] 108 j u hu
          exact ((((Below.refl _ _).alloc (Nat.le_refl _) _)).cell (p := ⟨w2.heap.size, j, none⟩) (World.block_lt_of_cell? _ _ h1)).trans h1
        have hB13 : Below w.heap.size w W3 := bt hBw2 HB3.out
        have hown3 := own_below (own_below HOwn.out hB2) HB3.out
        have q0 := HC3.out 0 _ rfl
        have q1 := HC3.out 1 _ rfl
        have q2 := HC3.out 2 _ rfl
        have q3 := HC3.out 3 _ rfl
        have q4 := HC3.out 4 _ rfl
        have HRow3 : Hid (PkRowG (Value.slice af fresh.length cf).ownBlock W3 (fresh ++ [p]) (xs ++ [.string ⟨p.name.toArray⟩, .string ⟨p.ver.toArray⟩, .slice x1 p.needs.length c1, .slice x2 p.bars.length c2, .slice x3 p.files.length c3])) :=
          ((HRow.out.below hB2).snoc (own_blk HOwn.out) p1 p2 p3).below HB3.out
        have HR2 : Hid (M.readAllS ((texts.take (k + 1)).map fun t => t.data.toList) 0 [] = .inr (fresh ++ [p])) := by
          show _ = _
          rw [texts_take hlt, M.readAll_snoc _ _ _ _ _ _ HR.out, HT.out, hr]
          rfl
        have hfn : fresh.length ≤ 20000 := by have := hfl.out; omega
        have cA : ∀ t wx, Calls Tryz.prog 57 #[.nilIface, t] wx fun e w' => e = .returned (.bool false) ∧ wx = w' := fun t wx => (as_nil t wx).mono fun e w' h => ⟨h.1, h.2.symm⟩
        clear hr HRow p1 p2 p3 HR hB2 hBw2
        go_wp2_with (first
          | (go_at_call 57; refine (cA _ _).mono ?_; rintro e w' ⟨rfl, rfl⟩)
          | (at_builtin; refine wpList_append_own_at _ rfl _ _ 271 rfl w.heap.size 108 i0 _ 5 104 Tryz.underlying271 hi0 hz0 hz1 hz2 rfl (by decide) _ _ _ rfl (hown3.alloc _) ⟨W3.heap.size, 0, none⟩ 1 1 [.string ⟨p.name.toArray⟩, .string ⟨p.ver.toArray⟩, .slice x1 p.needs.length c1, .slice x2 p.bars.length c2, .slice x3 p.files.length c3] rfl rfl ?c1 ?c2 ?c3 ?c4 ?c5 ?_))
        case c1 => exact five_new _ _ _ _ _ _ _
        case c2 => intro u hu; simp at hu; rcases hu with rfl | rfl | rfl | rfl | rfl <;> rfl
        case c3 => unfold maxLen; omega
        case c4 => omega
        case c5 => simp; have := hB13.size; omega
        intro v4 w4 hown' hgrow _ hat
        have RB : Below w.heap.size w w4 := (hB13.alloc hB13.size _).grown hgrow (by simp; have := hB13.size; omega) (fun j hj => (hown3.lt j hj).1)
        have RG : PkRowG v4.ownBlock w4 (fresh ++ [p]) (xs ++ [.string ⟨p.name.toArray⟩, .string ⟨p.ver.toArray⟩, .slice x1 p.needs.length c1, .slice x2 p.bars.length c2, .slice x3 p.files.length c3]) :=
          (HRow3.out.below ((Below.refl _ W3).alloc (Nat.le_refl _) _)).step hgrow (hat.imp id (fun h => h.trans (by simp)))
        have RO : w4.ownsRow w.heap.size 108 5 v4 (fresh ++ [p]).length (xs ++ [.string ⟨p.name.toArray⟩, .string ⟨p.ver.toArray⟩, .slice x1 p.needs.length c1, .slice x2 p.bars.length c2, .slice x3 p.files.length c3]) := by
          rw [List.length_append]; exact hown'
        clear hown' hgrow hat hown3 HRow3
        go_wp2
        go_roundw
        case rel => exact ⟨k + 1, fresh ++ [p], _, by go_num, by omega, RB, RO, RG, by show _ = _; rw [List.length_append, hfl.out]; rfl, HR2⟩
        case measure => simp [intOf]; omega
    · have hkk : k = texts.length := by omega
      have HR2 : Hid (M.readAllS (texts.map fun t => t.data.toList) 0 [] = .inr fresh) := by
        have h := HR.out
        rw [hkk, List.take_length] at h
        exact h
      have HF : Hid (PksIn wr (.slice af fresh.length cf) fresh) := PksIn.own HRow.out.row HOwn.out
      clear hkk HR HRow HOwn
      go_wp2
      refine bodyPost_ret (v := .tuple #[.slice af fresh.length cf, .nilIface]) (by simp [results, Tryz.results187, go_sem]) rfl ⟨hBr, ?_⟩
      rw [HR2.out]
      exact ⟨_, rfl, HF.out⟩
end Go.Proofs.YtgnfknjopafngaaGreatDoor
