import Derived.Test.YtgnfknjopafngaaGreatDoorKkm
import Derived.Test.YtgnfknjopafngaaGreatDoorKks
import Derived.Test.YtgnfknjopafngaaGreatDoorKkr
import Derived.Shelf.SlIter.Nil
import Derived.Shelf.SortM.Plain
import Derived.Shelf.SortM.SortNone
import Derived.Test.YtgnfknjopafngaaGreatDoorProg
namespace Go.Proofs.YtgnfknjopafngaaGreatDoor
open Go.RowKit
theorem infoPkC : (Tryz.prog.info? 108).map (fun i => (i.zero, i.size, i.bytes)) = some (some (.agg #[.string ⟨#[]⟩, .string ⟨#[]⟩, .slice none 0 0, .slice none 0 0, .slice none 0 0]), 5, 104) := by kernel_rfl
def ErrIs (f : M.Fa) (w : World) (v : Value) : Prop := ∃ fb, v = .iface 112 (.pointer (some ⟨fb, 0, none⟩)) ∧ FaultAt w fb f.kind f.which f.line ⟨f.name.toArray⟩
theorem ErrIs.below {f : M.Fa} {w w' : World} {v : Value} (h : ErrIs f w v) (hb : Below w.heap.size w w') : ErrIs f w' v := by
  obtain ⟨fb, e, h⟩ := h
  have hl := h.lt
  exact ⟨fb, e, (hb.cell (p := ⟨fb, 0, none⟩) hl).trans h.c0, (hb.cell (p := ⟨fb, 1, none⟩) hl).trans h.c1, (hb.cell (p := ⟨fb, 2, none⟩) hl).trans h.c2, (hb.cell (p := ⟨fb, 3, none⟩) hl).trans h.c3⟩
def RAllPost (R : Sum M.Fa (List M.Pk)) (w : World) (e : Ending) (w' : World) : Prop :=
  Below w.heap.size w w' ∧ match R with
    | .inl f => ∃ ev, e = .returned (.tuple #[.slice none 0 0, ev]) ∧ ErrIs f w' ev
    | .inr l => ∃ v, e = .returned (.tuple #[v, .nilIface]) ∧ PksIn w' v l
theorem fault_new {w : World} (k b c : Nat) (N : ByteArray) (t : TypeId) : FaultAt (w.alloc (.cells #[.int .i64 k, .int .i64 b, .int .i64 c, .string N] t)) w.heap.size k b c N :=
  ⟨new_at w [.int .i64 k, .int .i64 b, .int .i64 c, .string N] t 0 _ rfl, new_at w [.int .i64 k, .int .i64 b, .int .i64 c, .string N] t 1 _ rfl, new_at w [.int .i64 k, .int .i64 b, .int .i64 c, .string N] t 2 _ rfl, new_at w [.int .i64 k, .int .i64 b, .int .i64 c, .string N] t 3 _ rfl⟩
theorem fault_drew {w : World} {fb k b c : Nat} {N : ByteArray} (h : FaultAt w fb k b c N) : FaultAt w.drew fb k b c N := ⟨h.c0, h.c1, h.c2, h.c3⟩
set_option maxRecDepth 100000 in
set_option maxHeartbeats 8000000 in
theorem readAll_any (xv : Value) (texts : List ByteArray) (w : World) (hM : MaxIs w) (hE : ErrLaid w) (hx : TxtsIn w xv texts) (hxn : texts.length ≤ 20000) (hxs : ∀ t ∈ texts, t.size ≤ 8192) :
    Calls Tryz.prog 187 #[xv] w (RAllPost (M.readAllS (texts.map fun t => t.data.toList) 0 []) w) := by
  obtain ⟨i0, hi0, hz0, hz1, hz2⟩ := info_parts infoPkC
  obtain ⟨ax, cx, ex⟩ := hx.form
  subst ex
  have HX : Hid (TxtsIn w (.slice ax texts.length cx) texts) := hx
  have HXS : Hid (∀ t ∈ texts, t.size ≤ 8192) := hxs
  have HMx : Hid (MaxIs w) := hM
  have HEr : Hid (ErrLaid w) := hE
  clear hx hxs hM hE
  go_enter Tryz.func187, Tryz.ntmps187
  go_wp2
  go_loopw [4, 5, 6, 7, 8, 9, 12] (fun fv _ _ _ _ _ i wr => ∃ (k : Nat) (fresh : List M.Pk) (xs : List Value), i = .int .i64 k ∧ k ≤ texts.length ∧ Below w.heap.size w wr ∧ wr.ownsRow w.heap.size 108 5 fv fresh.length xs ∧ PkRowG fv.ownBlock wr fresh xs ∧ Hid (fresh.length = k) ∧ Hid (M.readAllS ((texts.take k).map fun t => t.data.toList) 0 [] = .inr fresh)) (fun _ _ _ _ _ _ i _ => texts.length - (intOf i).toNat)
  case atStart => exact ⟨0, [], [], rfl, Nat.zero_le _, Below.refl _ _, World.ownsRow_nil _ _ _ _, rfl, rfl, rfl⟩
  case round =>
    obtain ⟨k, fresh, xs, rfl, hk, hBr, hown, hrow, hfl, HR⟩ := hrel
    obtain ⟨af, cf, ef⟩ := own_form hown
    subst ef
    have HOwn : Hid (wr.ownsRow w.heap.size 108 5 (.slice af fresh.length cf) fresh.length xs) := hown
    have HRow : Hid (PkRowG (Value.slice af fresh.length cf).ownBlock wr fresh xs) := hrow
    clear hown hrow
    by_cases hlt : k < texts.length
    · obtain ⟨bx, ox, rfl, hbx, hcapx, hcx⟩ := HX.out.cellAt (by omega)
      have cx0 : wr.cell? ⟨bx, ox + k, none⟩ = some (.string texts[k]) := (hBr.cell (p := ⟨bx, ox + k, none⟩) hbx).trans (hcx k hlt)
      have hts : texts[k].size ≤ 8192 := HXS.out _ (List.getElem_mem hlt)
      generalize hT : texts[k] = T at cx0 hts
      have HT : Hid (texts[k] = T) := hT
      have cR := fun wx hm => pRead_any T wx hm hts
      clear hcx hT
      go_wp2_with fail
      refine (cR _ (HMx.out.below hBr)).mono ?_
      rintro e w2 ⟨hB2, hm⟩
      have hBw2 : Below w.heap.size w w2 := bt hBr hB2
      clear cR
      cases hr : M.readS T.data.toList with
      | inl n =>
        rw [hr] at hm
        obtain ⟨fb, rfl, hF⟩ := hm
        have HP : Hid (M.readAllS (texts.map fun t => t.data.toList) 0 [] = .inl ⟨1, k, n, []⟩) := by
          show _ = _
          rw [texts_split hlt, M.readAll_snoc _ _ _ _ _ _ HR.out, HT.out, hr]
          simp [Nat.min_eq_left (Nat.le_of_lt hlt)]
        generalize hW3 : (w2.alloc (.cells #[.string ⟨#[]⟩, .string ⟨#[]⟩, .slice none 0 0, .slice none 0 0, .slice none 0 0] 108)).alloc (.cells #[.pointer none] 112) = W3
        have hB3 : Below w2.heap.size w2 W3 := by rw [← hW3]; exact bt ((Below.refl _ w2).alloc (Nat.le_refl _) _) ((Below.refl _ _).alloc (Nat.le_refl _) _)
        have s3 : W3.heap.size = w2.heap.size + 2 := by rw [← hW3]; simp
        have t3 : W3.cell? ⟨w2.heap.size + 1, 0, none⟩ = some (.pointer none) := by
          rw [← hW3]
          simp
        have f3 : W3.frozen? ⟨w2.heap.size + 1, 0, none⟩ = false := by
          rw [← hW3]
          simp
        have hEl : ErrLaid W3 := HEr.out.below (bt hBw2 hB3)
        have cA := as_hit ⟨fb, 0, none⟩ ⟨w2.heap.size + 1, 0, none⟩ (.pointer none) W3 hEl t3 f3
        have hfb : fb < w2.heap.size := hF.lt
        have HF : Hid (FaultAt w2 fb 1 0 n ⟨#[]⟩) := hF
        subst hW3
        clear hEl t3 f3 hF hr HRow HOwn HR
        go_wp2_with fail
        refine cA.mono ?_
        rintro e w4 ⟨rfl, W, hW, hw4⟩
        have hsz : w2.heap.size + 1 < W.heap.size := by have := hW.size; rw [s3] at this; omega
        have hBW : Below w2.heap.size w2 W := bt hB3 hW
        have qf : w4.cell? ⟨w2.heap.size + 1, 0, none⟩ = some (.pointer (some ⟨fb, 0, none⟩)) := by
          rw [hw4]
          refine World.cell?_setCell_same _ _ _ (u := .pointer none) ((hW.cell (p := ⟨w2.heap.size + 1, 0, none⟩) (by show w2.heap.size + 1 < _; rw [s3]; omega)).trans ?_)
          simp
        have hp : ∀ o, w4.cell? ⟨fb, o, none⟩ = w2.cell? ⟨fb, o, none⟩ := fun o => by
          rw [hw4, cell_set_block _ _ _ _ _ _ (by omega)]
          exact hBW.cell (p := ⟨fb, o, none⟩) hfb
        have p0 := (hp 0).trans HF.out.c0
        have p2 := (hp 2).trans HF.out.c2
        have hB4 : Below w.heap.size w w4 := by rw [hw4]; exact (bt hBw2 hBW).setCell (by show w.heap.size ≤ w2.heap.size + 1; have := hBw2.size; omega) _
        clear hp hw4 cA hW hBW s3 hsz
        go_wp2
        go_region
        all_goals
          go_wp2
          refine bodyPost_ret (v := .tuple #[.slice none 0 0, .iface 112 (.pointer (some ⟨w4.heap.size, 0, none⟩))]) (by simp [results, Tryz.results187, go_sem]) rfl ⟨?_, ?_⟩
          · exact below_drewN (hB4.alloc hB4.size _) 1
          · rw [HP.out]
            exact ⟨_, rfl, _, rfl, fault_drew (fault_new (w := w4) 1 k n ⟨#[]⟩ 117)⟩
      | inr p =>
        rw [hr] at hm
        obtain ⟨v, rfl, hv⟩ := hm
        obtain ⟨nv, bv, fv, rfl, p1, p2, p3⟩ := hv
        obtain ⟨x1, c1, e1⟩ := p1.form
        obtain ⟨x2, c2, e2⟩ := p2.form
        obtain ⟨x3, c3, e3⟩ := p3.form
        subst e1 e2 e3
        generalize hW3 : (w2.alloc (.cells #[.string ⟨p.name.toArray⟩, .string ⟨p.ver.toArray⟩, .slice x1 p.needs.length c1, .slice x2 p.bars.length c2, .slice x3 p.files.length c3] 108)).alloc (.cells #[.pointer none] 112) = W3
        have HB3 : Hid (Below w2.heap.size w2 W3) := by rw [← hW3]; exact bt ((Below.refl _ w2).alloc (Nat.le_refl _) _) ((Below.refl _ _).alloc (Nat.le_refl _) _)
        have HC3 : Hid (∀ j u, [Value.string ⟨p.name.toArray⟩, .string ⟨p.ver.toArray⟩, .slice x1 p.needs.length c1, .slice x2 p.bars.length c2, .slice x3 p.files.length c3][j]? = some u → W3.cell? ⟨w2.heap.size, j, none⟩ = some u) := by
          rw [← hW3]
          intro j u hu
          have h1 := new_at w2 [.string ⟨p.name.toArray⟩, .string ⟨p.ver.toArray⟩, .slice x1 p.needs.length c1, .slice x2 p.bars.length c2, .slice x3 p.files.length c3] 108 j u hu
          exact ((((Below.refl _ _).alloc (Nat.le_refl _) _)).cell (p := ⟨w2.heap.size, j, none⟩) (World.block_lt_of_cell? _ _ h1)).trans h1
        have hB13 : Below w.heap.size w W3 := bt hBw2 HB3.out
        have hown3 := own_below (own_below HOwn.out hB2) HB3.out
        have q0 := HC3.out 0 _ rfl
        have q1 := HC3.out 1 _ rfl
        have q2 := HC3.out 2 _ rfl
        have q3 := HC3.out 3 _ rfl
        have q4 := HC3.out 4 _ rfl
        have HRow3 : Hid (PkRowG (Value.slice af fresh.length cf).ownBlock W3 (fresh ++ [p]) (xs ++ [.string ⟨p.name.toArray⟩, .string ⟨p.ver.toArray⟩, .slice x1 p.needs.length c1, .slice x2 p.bars.length c2, .slice x3 p.files.length c3])) :=
          ((HRow.out.below hB2).snoc (own_blk HOwn.out) p1 p2 p3).below HB3.out
        have HR2 : Hid (M.readAllS ((texts.take (k + 1)).map fun t => t.data.toList) 0 [] = .inr (fresh ++ [p])) := by
          show _ = _
          rw [texts_take hlt, M.readAll_snoc _ _ _ _ _ _ HR.out, HT.out, hr]
          rfl
        have hfn : fresh.length ≤ 20000 := by have := hfl.out; omega
        have cA : ∀ t wx, Calls Tryz.prog 57 #[.nilIface, t] wx fun e w' => e = .returned (.bool false) ∧ wx = w' := fun t wx => (as_nil t wx).mono fun e w' h => ⟨h.1, h.2.symm⟩
        clear hr HRow p1 p2 p3 HR hB2 hBw2
        go_wp2_with (first
          | (go_at_call 57; refine (cA _ _).mono ?_; rintro e w' ⟨rfl, rfl⟩)
          | (at_builtin; refine wpList_append_own_at _ rfl _ _ 271 rfl w.heap.size 108 i0 _ 5 104 Tryz.underlying271 hi0 hz0 hz1 hz2 rfl (by decide) _ _ _ rfl (hown3.alloc _) ⟨W3.heap.size, 0, none⟩ 1 1 [.string ⟨p.name.toArray⟩, .string ⟨p.ver.toArray⟩, .slice x1 p.needs.length c1, .slice x2 p.bars.length c2, .slice x3 p.files.length c3] rfl rfl ?c1 ?c2 ?c3 ?c4 ?c5 ?_))
        case c1 => exact five_new _ _ _ _ _ _ _
        case c2 => intro u hu; simp at hu; rcases hu with rfl | rfl | rfl | rfl | rfl <;> rfl
        case c3 => unfold maxLen; omega
        case c4 => omega
        case c5 => simp; have := hB13.size; omega
        intro v4 w4 hown' hgrow _ hat
        have RB : Below w.heap.size w w4 := (hB13.alloc hB13.size _).grown hgrow (by simp; have := hB13.size; omega) (fun j hj => (hown3.lt j hj).1)
        have RG : PkRowG v4.ownBlock w4 (fresh ++ [p]) (xs ++ [.string ⟨p.name.toArray⟩, .string ⟨p.ver.toArray⟩, .slice x1 p.needs.length c1, .slice x2 p.bars.length c2, .slice x3 p.files.length c3]) :=
          (HRow3.out.below ((Below.refl _ W3).alloc (Nat.le_refl _) _)).step hgrow (hat.imp id (fun h => h.trans (by simp)))
        have RO : w4.ownsRow w.heap.size 108 5 v4 (fresh ++ [p]).length (xs ++ [.string ⟨p.name.toArray⟩, .string ⟨p.ver.toArray⟩, .slice x1 p.needs.length c1, .slice x2 p.bars.length c2, .slice x3 p.files.length c3]) := by
          rw [List.length_append]; exact hown'
        clear hown' hgrow hat hown3 HRow3
        go_wp2
        go_roundw
        case rel => exact ⟨k + 1, fresh ++ [p], _, by go_num, by omega, RB, RO, RG, by show _ = _; rw [List.length_append, hfl.out]; rfl, HR2⟩
        case measure => simp [intOf]; omega
    · have hkk : k = texts.length := by omega
      have HR2 : Hid (M.readAllS (texts.map fun t => t.data.toList) 0 [] = .inr fresh) := by
        have h := HR.out
        rw [hkk, List.take_length] at h
        exact h
      have HF : Hid (PksIn wr (.slice af fresh.length cf) fresh) := PksIn.own HRow.out.row HOwn.out
      clear hkk HR HRow HOwn
      go_wp2
      refine bodyPost_ret (v := .tuple #[.slice af fresh.length cf, .nilIface]) (by simp [results, Tryz.results187, go_sem]) rfl ⟨hBr, ?_⟩
      rw [HR2.out]
      exact ⟨_, rfl, HF.out⟩
end Go.Proofs.YtgnfknjopafngaaGreatDoor
namespace Go.Proofs.YtgnfknjopafngaaGreatDoor
namespace M
def insN (x : List UInt8) : List (List UInt8) → List (List UInt8)
  | [] => [x]
  | y :: r => if Op.bytesLess x y = true then x :: y :: r else y :: insN x r
def sortN (l : List (List UInt8)) : List (List UInt8) := l.foldr insN []
theorem insN_perm (x : List UInt8) : ∀ r, (insN x r).Perm (x :: r)
  | [] => .refl _
  | y :: r => by
    unfold insN
    split
    · exact .refl _
    · exact ((insN_perm x r).cons y).trans (.swap _ _ _)
theorem sortN_perm : ∀ l, (sortN l).Perm l
  | [] => .refl _
  | x :: l => (insN_perm x (sortN l)).trans ((sortN_perm l).cons x)
theorem insN_rising {x : List UInt8} : ∀ {r : List (List UInt8)}, Rising r → x ∉ r → Rising (insN x r)
  | [], _, _ => by simp [insN, Rising]
  | y :: r, h, hx => by
    obtain ⟨h1, h2⟩ := List.pairwise_cons.1 h
    unfold insN
    split
    · rename_i hl
      refine List.pairwise_cons.2 ⟨fun z hz => ?_, h⟩
      rcases List.mem_cons.1 hz with rfl | hz
      · exact hl
      · exact less_trans hl (h1 z hz)
    · rename_i hl
      have hyx : Op.bytesLess y x = true := by
        cases hb : Op.bytesLess y x with
        | true => rfl
        | false => exact absurd (less_total hb (by simpa using hl)) (fun e => hx (by simp [e]))
      refine List.pairwise_cons.2 ⟨fun z hz => ?_, insN_rising h2 (fun hm => hx (by simp [hm]))⟩
      rcases List.mem_cons.1 ((insN_perm x r).mem_iff.1 hz) with rfl | hz
      · exact hyx
      · exact h1 z hz
theorem sortN_rising : ∀ {l : List (List UInt8)}, l.Nodup → Rising (sortN l)
  | [], _ => List.Pairwise.nil
  | x :: l, h => by
    obtain ⟨h1, h2⟩ := List.nodup_cons.1 h
    exact insN_rising (sortN_rising h2) (fun hm => h1 ((sortN_perm l).mem_iff.1 hm))
theorem sortN_eq {l k : List (List UInt8)} (hl : l.Nodup) (hk : k.Nodup) (h : ∀ x, x ∈ l ↔ x ∈ k) : sortN l = sortN k :=
  Rising.eq (sortN_rising hl) (sortN_rising hk) (fun x => by rw [(sortN_perm l).mem_iff, (sortN_perm k).mem_iff, h])
def textOf (l : List Pk) (n : List UInt8) : List UInt8 := match l.find? (fun p => p.name == n) with
  | some p => printS p
  | none => []
def textsS (l : List Pk) : List (List UInt8) := (sortN (l.map Pk.name)).map (textOf l)
theorem textOf_mem {l : List Pk} (ha : Apart l) {p : Pk} (hp : p ∈ l) : textOf l p.name = printS p := by
  unfold textOf
  cases h : l.find? (fun q => q.name == p.name) with
  | none =>
    have := List.find?_eq_none.1 h p hp
    simp at this
  | some q =>
    have h1 := List.find?_some h
    have h2 := List.mem_of_find?_eq_some h
    have e := ha.eq h2 hp (by simpa using h1)
    rw [e]
theorem texts_perm {l k : List Pk} (ha : Apart l) (h : l.Perm k) : textsS l = textsS k := by
  have hk := ha.perm h
  unfold textsS
  rw [sortN_eq ha hk (fun x => (h.map Pk.name).mem_iff)]
  refine List.map_congr_left (fun x hx => ?_)
  obtain ⟨p, hp, rfl⟩ := List.mem_map.1 ((sortN_perm _).mem_iff.1 hx)
  rw [textOf_mem hk hp, textOf_mem ha (h.mem_iff.2 hp)]
end M
end Go.Proofs.YtgnfknjopafngaaGreatDoor
namespace Go.Proofs
open Go.Shelf
def Tryz.keys161_ren : Go.Shelf.Ren := ⟨fun | 7 => 161 | 10 => 200 | n => n, fun | 23 => 135 | 26 => 9 | 3 => 108 | 28 => 253 | 0 => 0 | 27 => 252 | 33 => 36 | 4 => 4 | n => n, fun | n => n⟩
theorem Tryz.keys161 : Go.Proofs.SlLaysZ.n7 Tryz.prog Tryz.keys161_ren := {
  mixed := by kernel_rfl
  f7 := ⟨Tryz.f161.name, by decide, Tryz.func161.trans (congrArg some (by kernel_rfl))⟩
  f10 := ⟨Tryz.f200.name, by decide, Tryz.func200.trans (congrArg some (by kernel_rfl))⟩
  t0 := Tryz.underlying0
  a0 := Tryz.isAgg0
  z0 := Tryz.sizeOf0
  v0 := Tryz.zeroValue0
  t4 := Tryz.underlying4
  a4 := Tryz.isAgg4
  z4 := Tryz.sizeOf4
  v4 := Tryz.zeroValue4
  t23 := Tryz.underlying135
  a23 := Tryz.isAgg135
  z23 := Tryz.sizeOf135
  v23 := Tryz.zeroValue135
  t26 := Tryz.underlying9
  a26 := Tryz.isAgg9
  z26 := Tryz.sizeOf9
  v26 := Tryz.zeroValue9
  t27 := Tryz.underlying252
  a27 := Tryz.isAgg252
  z27 := Tryz.sizeOf252
  v27 := Tryz.zeroValue252
  t28 := Tryz.underlying253
  a28 := Tryz.isAgg253
  z28 := Tryz.sizeOf253
  v28 := Tryz.zeroValue253
  t33 := Tryz.underlying36
  a33 := Tryz.isAgg36
  z33 := Tryz.sizeOf36
  v33 := Tryz.zeroValue36 }
def Tryz.sorted160_ren : Go.Shelf.Ren := ⟨fun | 6 => 160 | 8 => 198 | 9 => 199 | 11 => 243 | 13 => 179 | 12 => 244 | 23 => 229 | 24 => 230 | 14 => 269 | 15 => 270 | 16 => 271 | 17 => 272 | 18 => 273 | 19 => 274 | 20 => 239 | 21 => 275 | 22 => 276 | 25 => 282 | 26 => 257 | 27 => 258 | 28 => 283 | 29 => 284 | 30 => 267 | 31 => 288 | n => n, fun | 26 => 9 | 28 => 253 | 24 => 43 | 0 => 0 | 3 => 3 | 37 => 267 | 48 => 308 | 50 => 310 | 4 => 4 | 40 => 302 | 39 => 301 | 45 => 287 | 5 => 5 | 9 => 9 | 51 => 318 | 55 => 322 | 57 => 338 | 58 => 240 | 33 => 36 | n => n, fun | n => n⟩
theorem Tryz.sorted160 : Go.Proofs.SlLaysZ.n6 Tryz.prog Tryz.sorted160_ren := {
  mixed := by kernel_rfl
  f6 := ⟨Tryz.f160.name, by decide, Tryz.func160.trans (congrArg some (by kernel_rfl))⟩
  f8 := ⟨Tryz.f198.name, by decide, Tryz.func198.trans (congrArg some (by kernel_rfl))⟩
  f11 := ⟨Tryz.f243.name, by decide, Tryz.func243.trans (congrArg some (by kernel_rfl))⟩
  t0 := Tryz.underlying0
  a0 := Tryz.isAgg0
  z0 := Tryz.sizeOf0
  v0 := Tryz.zeroValue0
  t24 := Tryz.underlying43
  a24 := Tryz.isAgg43
  z24 := Tryz.sizeOf43
  v24 := Tryz.zeroValue43
  t26 := Tryz.underlying9
  a26 := Tryz.isAgg9
  z26 := Tryz.sizeOf9
  v26 := Tryz.zeroValue9
  t28 := Tryz.underlying253
  a28 := Tryz.isAgg253
  z28 := Tryz.sizeOf253
  v28 := Tryz.zeroValue253
  i26 := by kernel_rfl }
def Tryz.sort199_ren : Go.Shelf.Ren := ⟨fun | 6 => 199 | 8 => 179 | 9 => 244 | 19 => 229 | 20 => 230 | 21 => 269 | 22 => 270 | 23 => 271 | 24 => 272 | 25 => 273 | 26 => 274 | 27 => 239 | 28 => 275 | 29 => 276 | 36 => 282 | 31 => 257 | 32 => 258 | 37 => 283 | 38 => 284 | 39 => 267 | 41 => 288 | n => n, fun | 27 => 43 | 29 => 9 | 3 => 3 | 32 => 267 | 26 => 43 | 0 => 0 | 44 => 308 | 46 => 310 | 4 => 4 | 36 => 302 | 35 => 301 | 41 => 287 | 5 => 5 | 9 => 9 | 53 => 318 | 57 => 322 | 63 => 338 | 64 => 240 | n => n, fun | n => n⟩
theorem Tryz.sort199 : Go.Proofs.SlLaysM.n6 Tryz.prog Tryz.sort199_ren := {
  mixed := by kernel_rfl
  f6 := ⟨Tryz.f199.name, by decide, Tryz.func199.trans (congrArg some (by kernel_rfl))⟩
  f8 := Tryz.func179.trans (congrArg some (by kernel_rfl))
  f9 := ⟨Tryz.f244.name, by decide, Tryz.func244.trans (congrArg some (by kernel_rfl))⟩
  f19 := Tryz.func229.trans (congrArg some (by kernel_rfl))
  f20 := Tryz.func230.trans (congrArg some (by kernel_rfl))
  f21 := ⟨Tryz.f269.name, by decide, Tryz.func269.trans (congrArg some (by kernel_rfl))⟩
  f22 := ⟨Tryz.f270.name, by decide, Tryz.func270.trans (congrArg some (by kernel_rfl))⟩
  f23 := ⟨Tryz.f271.name, by decide, Tryz.func271.trans (congrArg some (by kernel_rfl))⟩
  f24 := ⟨Tryz.f272.name, by decide, Tryz.func272.trans (congrArg some (by kernel_rfl))⟩
  f25 := ⟨Tryz.f273.name, by decide, Tryz.func273.trans (congrArg some (by kernel_rfl))⟩
  f26 := ⟨Tryz.f274.name, by decide, Tryz.func274.trans (congrArg some (by kernel_rfl))⟩
  f27 := ⟨Tryz.f239.name, by decide, Tryz.func239.trans (congrArg some (by kernel_rfl))⟩
  f28 := ⟨Tryz.f275.name, by decide, Tryz.func275.trans (congrArg some (by kernel_rfl))⟩
  f29 := ⟨Tryz.f276.name, by decide, Tryz.func276.trans (congrArg some (by kernel_rfl))⟩
  f31 := Tryz.func257.trans (congrArg some (by kernel_rfl))
  f32 := Tryz.func258.trans (congrArg some (by kernel_rfl))
  f36 := ⟨Tryz.f282.name, by decide, Tryz.func282.trans (congrArg some (by kernel_rfl))⟩
  f37 := ⟨Tryz.f283.name, by decide, Tryz.func283.trans (congrArg some (by kernel_rfl))⟩
  f38 := ⟨Tryz.f284.name, by decide, Tryz.func284.trans (congrArg some (by kernel_rfl))⟩
  f39 := ⟨Tryz.f267.name, by decide, Tryz.func267.trans (congrArg some (by kernel_rfl))⟩
  f41 := ⟨Tryz.f288.name, by decide, Tryz.func288.trans (congrArg some (by kernel_rfl))⟩
  t0 := Tryz.underlying0
  a0 := Tryz.isAgg0
  z0 := Tryz.sizeOf0
  v0 := Tryz.zeroValue0
  t3 := Tryz.underlying3
  a3 := Tryz.isAgg3
  z3 := Tryz.sizeOf3
  v3 := Tryz.zeroValue3
  t4 := Tryz.underlying4
  a4 := Tryz.isAgg4
  z4 := Tryz.sizeOf4
  v4 := Tryz.zeroValue4
  t5 := Tryz.underlying5
  a5 := Tryz.isAgg5
  z5 := Tryz.sizeOf5
  v5 := Tryz.zeroValue5
  t9 := Tryz.underlying9
  a9 := Tryz.isAgg9
  z9 := Tryz.sizeOf9
  v9 := Tryz.zeroValue9
  t26 := Tryz.underlying43
  a26 := Tryz.isAgg43
  z26 := Tryz.sizeOf43
  v26 := Tryz.zeroValue43
  t27 := Tryz.underlying43
  a27 := Tryz.isAgg43
  z27 := Tryz.sizeOf43
  v27 := Tryz.zeroValue43
  t29 := Tryz.underlying9
  a29 := Tryz.isAgg9
  z29 := Tryz.sizeOf9
  v29 := Tryz.zeroValue9
  t32 := Tryz.underlying267
  a32 := Tryz.isAgg267
  z32 := Tryz.sizeOf267
  v32 := Tryz.zeroValue267
  t35 := Tryz.underlying301
  a35 := Tryz.isAgg301
  z35 := Tryz.sizeOf301
  v35 := Tryz.zeroValue301
  t36 := Tryz.underlying302
  a36 := Tryz.isAgg302
  z36 := Tryz.sizeOf302
  v36 := Tryz.zeroValue302
  t41 := Tryz.underlying287
  a41 := Tryz.isAgg287
  z41 := Tryz.sizeOf287
  v41 := Tryz.zeroValue287
  t44 := Tryz.underlying308
  a44 := Tryz.isAgg308
  z44 := Tryz.sizeOf308
  v44 := Tryz.zeroValue308
  t46 := Tryz.underlying310
  a46 := Tryz.isAgg310
  z46 := Tryz.sizeOf310
  v46 := Tryz.zeroValue310
  t53 := Tryz.underlying318
  a53 := Tryz.isAgg318
  z53 := Tryz.sizeOf318
  v53 := Tryz.zeroValue318
  t57 := Tryz.underlying322
  a57 := Tryz.isAgg322
  z57 := Tryz.sizeOf322
  v57 := Tryz.zeroValue322
  t63 := Tryz.underlying338
  a63 := Tryz.isAgg338
  z63 := Tryz.sizeOf338
  v63 := Tryz.zeroValue338
  t64 := Tryz.underlying240
  a64 := Tryz.isAgg240
  z64 := Tryz.sizeOf240
  v64 := Tryz.zeroValue240 }
open Go.RowKit Go.Maps Go.Sort Go.Shelf
theorem Tryz.sorts160 (m : Nat) : AnyZ.SortsIn Tryz.prog Tryz.sorted160_ren Fence.wide m :=
  ⟨fun blk off cap ss W hH hblk hsz => callsIn_wide.2 (AnyM.slices_Sort_string Tryz.sort199 blk off cap ss W hH hblk hsz),
   fun p cap W => callsIn_wide.2 (AnyM.slices_Sort_string_none Tryz.sort199 p cap W)⟩
theorem Tryz.maps_Keys_161 (mb : Option Nat) (W : World) : CallsIn Fence.wide 5 Tryz.prog 161 #[.map mb] W fun e w' => e = .returned (.func (.func 200) #[] #[.pointer (some ⟨W.heap.size, 0, none⟩)]) ∧ w' = W.alloc (.cells #[.map mb] 135) :=
  AnyZ.keys_in Tryz.keys161 Fence.wide 5 trivial rfl mb W
set_option maxHeartbeats 1000000 in
theorem Tryz.slices_Sorted_keys_160_161 {H : Type} (b nn : Nat) (D0 : DataW H) (R : Value → Option (DataW H × List MemPlace)) (w : World) (hown : w.ownsMap Tryz.prog 9 R b nn D0) (hmax : Maps.size D0 ≤ maxLen) (hbytes : Maps.size D0 * 16 ≤ 140737488355328) :
    CallsIn Fence.wide 5 Tryz.prog 160 #[.func (.func 200) #[] #[.pointer (some ⟨w.heap.size, 0, none⟩)]] (w.alloc (.cells #[.map (some b)] 135)) fun e w' => ∃ (v : Value) (ss : List (List UInt8)), e = .returned v ∧ ss.Perm (strKeys D0) ∧
      w'.ownsRow (w.alloc (.cells #[.map (some b)] 135)).heap.size 9 1 v ss.length ((ss.mergeSort (fun x y => decide (x ≤ y))).map encStr) ∧ (v = .slice none 0 0 ↔ ss = []) ∧ Below (w.alloc (.cells #[.map (some b)] 135)).heap.size (w.alloc (.cells #[.map (some b)] 135)) w' := by
  have hbl := hown.lt
  have hseq : SeqGives Fence.wide 2 Tryz.prog 200 #[.pointer (some ⟨w.heap.size, 0, none⟩)] encStr (fun ss => ss.Perm (strKeys D0)) (Maps.size D0) (w.alloc (.cells #[.map (some b)] 135)) :=
    AnyZ.keys_gives (ρ := Tryz.keys161_ren) { Tryz.keys161 with } Fence.wide _ trivial rfl (by omega) w.heap.size b nn D0 _ (by simp) (by simp) (by
      obtain ⟨es, clock, hb, Ft, hs, hD⟩ := hown
      exact ⟨es, clock, (Below.heap_alloc _ _ b hbl).trans hb, Ft, hs, hD⟩)
  exact AnyZ.sorted_in Tryz.sorted160 Fence.wide 5 trivial trivial trivial trivial rfl (by omega) (Tryz.sorts160 _) (enters_of Tryz.func199 (by kernel_rfl) rfl) 200 #[.pointer (some ⟨w.heap.size, 0, none⟩)] trivial (enters_of Tryz.func200 (by kernel_rfl) rfl) _ _ hmax hbytes _ hseq
end Go.Proofs
namespace Go.Proofs.YtgnfknjopafngaaGreatDoor
open Go.RowKit Go.Maps Go.Sort
theorem less_lt : ∀ (a b : List UInt8), Op.bytesLess a b = true ↔ a < b
  | _, [] => by simp [Op.bytesLess]
  | [], _ :: _ => by simp [Op.bytesLess]
  | a :: x, b :: y => by
    rw [List.cons_lt_cons_iff, ← less_lt x y]
    simp [Op.bytesLess]
theorem merge_sort {ss : List (List UInt8)} (h : ss.Nodup) : ss.mergeSort (fun x y => decide (x ≤ y)) = M.sortN ss := by
  refine M.Rising.eq ?_ (M.sortN_rising h) (fun x => by rw [List.mem_mergeSort, (M.sortN_perm ss).mem_iff])
  have hp : (ss.mergeSort (fun x y => decide (x ≤ y))).Pairwise (fun a b => decide (a ≤ b) = true) := by
    refine List.pairwise_mergeSort (fun a b c hab hbc => ?_) (fun a b => ?_) ss
    · simp only [decide_eq_true_eq] at *
      exact List.le_trans hab hbc
    · simp only [Bool.or_eq_true, decide_eq_true_eq]
      exact List.le_total a b
  have hn : (ss.mergeSort (fun x y => decide (x ≤ y))).Nodup := (List.mergeSort_perm ss _).nodup_iff.2 h
  refine (hp.and hn).imp (fun {a b} hab => ?_)
  obtain ⟨h1, h2⟩ := hab
  simp only [decide_eq_true_eq] at h1
  rw [less_lt]
  exact Decidable.byContradiction (fun hlt => h2 (List.le_antisymm h1 (List.not_lt.1 hlt)))
theorem str_keys {es : List (Lit × DataW Value)} {l : List KV} (h : es.Perm (l.map toE)) : (strKeys (.map es)).Perm (l.map Prod.fst) := by
  have := h.map (fun p => strOf p.1)
  rw [List.map_map] at this
  exact this
set_option maxRecDepth 100000 in
set_option maxHeartbeats 2000000 in
theorem names_any (b : Nat) (l : List M.Pk) (w : World) (hl : SetIn w b l) (hn : l.length ≤ 1000000) :
    Calls Tryz.prog 120 #[.map (some b)] w fun e w' => ∃ v, e = .returned v ∧ w'.ownsRow w.heap.size 9 1 v l.length (nmCells (M.sortN (l.map M.Pk.name))) ∧ Below w.heap.size w w' := by
  have ha := hl.apart
  obtain ⟨f, ⟨n, es, h1, h2, h3, h4⟩, _⟩ := hl
  have hlen : es.length = l.length := by rw [h3.length_eq, List.length_map, List.length_map]
  have cK := fun W => callsIn_wide.1 (Tryz.maps_Keys_161 (some b) W)
  have cS := callsIn_wide.1 (Tryz.slices_Sorted_keys_160_161 b n (.map es) heldE w h1 (by rw [Maps.size_eq]; unfold maxLen; omega) (by rw [Maps.size_eq]; omega))
  have HP : Hid ((strKeys (.map es)).Perm (l.map M.Pk.name)) := by
    have := str_keys h3
    rw [List.map_map] at this
    exact this
  have HA : Hid (M.Apart l) := ha
  clear h1 h2 h3 h4 ha hlen
  go_enter Tryz.func120, Tryz.ntmps120
  go_wp2_with (first
    | (go_at_call 161; refine (cK _).mono ?_; rintro e w' ⟨rfl, rfl⟩)
    | (go_at_call 160; refine cS.mono ?_; rintro e w' ⟨v, ss, rfl, hS, hrow, hnil, hb⟩))
  go_ret
  have hp := hS.trans HP.out
  have hnd : ss.Nodup := hp.nodup_iff.2 HA.out
  have es1 : ss.mergeSort (fun x y => decide (x ≤ y)) = M.sortN (l.map M.Pk.name) := (merge_sort hnd).trans (M.sortN_eq hnd HA.out (fun x => hp.mem_iff))
  rw [es1, hp.length_eq, List.length_map] at hrow
  exact ⟨v, rfl, ownsRow_base_a hrow (by simp), ((Below.refl _ w).alloc (Nat.le_refl _) _).trans (hb.mono (by simp))⟩
end Go.Proofs.YtgnfknjopafngaaGreatDoor
