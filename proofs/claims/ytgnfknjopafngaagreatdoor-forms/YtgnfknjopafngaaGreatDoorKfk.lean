import Derived.Test.YtgnfknjopafngaaGreatDoorKfj
import Derived.Lib.Bytealg
import Derived.Sort.Lot0
import Derived.Test.YtgnfknjopafngaaGreatDoorKfb
import Derived.Test.YtgnfknjopafngaaGreatDoorKfh
import Derived.Test.YtgnfknjopafngaaGreatDoorKfi
namespace Go.Proofs.YtgnfknjopafngaaGreatDoor
open Go.RowKit
structure RAt (w : World) (rb lb : Nat) (ps : List ByteArray) (k : Nat) : Prop where
  c0 : w.cell? ⟨rb, 0, none⟩ = some (.slice (some ⟨lb, 0, none⟩) ps.length ps.length)
  c1 : w.cell? ⟨rb, 1, none⟩ = some (.int .i64 ((k : Int) + 1))
  fz : ∀ o, w.frozen? ⟨rb, o, none⟩ = false
  cl : ∀ j (h : j < ps.length), w.cell? ⟨lb, j, none⟩ = some (.string ps[j])
  lt : rb < lb
  le : lb < w.heap.size
  kl : k ≤ ps.length
theorem RAt.below {w w' : World} {rb lb k pb : Nat} {ps : List ByteArray} (h : RAt w rb lb ps k) (hb : Below pb w w') (hp : lb < pb) : RAt w' rb lb ps k := by
  have hrb : rb < pb := Nat.lt_trans h.lt hp
  refine ⟨(hb.cell (p := ⟨rb, 0, none⟩) hrb).trans h.c0, (hb.cell (p := ⟨rb, 1, none⟩) hrb).trans h.c1, fun o => (hb.frozen (p := ⟨rb, o, none⟩) hrb).trans (h.fz o), fun j hj => (hb.cell (p := ⟨lb, j, none⟩) hp).trans (h.cl j hj), h.lt, ?_, h.kl⟩
  exact Nat.lt_of_lt_of_le h.le hb.size
theorem RAt.next {w : World} {rb lb k : Nat} {ps : List ByteArray} (h : RAt w rb lb ps k) (hk : k < ps.length) : RAt (w.setCell ⟨rb, 1, none⟩ (.int .i64 ((k : Int) + 1 + 1))) rb lb ps (k + 1) := by
  have hne : lb ≠ rb := by have := h.lt; omega
  refine ⟨?_, ?_, fun o => ?_, fun j hj => ?_, h.lt, ?_, hk⟩
  · rw [setC_off _ _ _ _ _ (by decide)]; exact h.c0
  · rw [World.cell?_setCell_same _ _ _ h.c1]; rfl
  · rw [World.frozen?_setCell]; exact h.fz o
  · rw [setC_blk _ _ _ _ _ _ hne]; exact h.cl j hj
  · rw [setC_size]; exact h.le
def takeS (T : List UInt8) (st : List UInt8 → Option M.Pk) (ls : List (List UInt8)) (k : Nat) (p : M.Pk) : Option (Bool × Nat × M.Pk) := match ls[k]? with
  | none => some (false, k, p)
  | some s => if Lib.hasPrefix s T = true then (match st (s.drop T.length) with
      | none => none
      | some q => some (true, k + 1, q))
    else some (false, k, p)
def KeepB (w w' : World) (rb pb : Nat) : Prop := ∀ g o, g < pb → g ≠ rb → w'.cell? ⟨g, o, none⟩ = w.cell? ⟨g, o, none⟩ ∧ w'.frozen? ⟨g, o, none⟩ = w.frozen? ⟨g, o, none⟩
theorem KeepB.below {w w' : World} {rb pb : Nat} (h : Below pb w w') : KeepB w w' rb pb := fun g o hg _ => ⟨h.cell (p := ⟨g, o, none⟩) hg, h.frozen (p := ⟨g, o, none⟩) hg⟩
theorem KeepB.set {w w' : World} {rb pb o : Nat} {v : Value} (h : KeepB w w' rb pb) : KeepB w (w'.setCell ⟨rb, o, none⟩ v) rb pb := fun g o' hg hne => ⟨(setC_blk _ _ _ _ _ _ hne).trans (h g o' hg hne).1, by rw [World.frozen?_setCell]; exact (h g o' hg hne).2⟩
def TakePost (o : Option (Bool × Nat × M.Pk)) (rb lb pb : Nat) (ps : List ByteArray) (w : World) (e : Ending) (w' : World) : Prop := match o with
  | none => Thrown e ∧ Below pb w w'
  | some (b, k, p) => e = .returned (.bool b) ∧ RAt w' rb lb ps k ∧ QkAt w' pb p ∧ Below rb w w' ∧ KeepB w w' rb pb
theorem QkAt.below {w w' : World} {pb : Nat} {p : M.Pk} (h : QkAt w pb p) (hb : Below w.heap.size w w') : QkAt w' pb p := by
  obtain ⟨B, nv, bv, fv, h⟩ := h
  exact ⟨B, nv, bv, fv, h.below hb⟩
theorem QkAt.lt {w : World} {pb : Nat} {p : M.Pk} (h : QkAt w pb p) : pb < w.heap.size := by
  obtain ⟨B, nv, bv, fv, h⟩ := h
  exact Nat.lt_of_lt_of_le h.lt h.le
theorem QkAt.set {w : World} {pb b o : Nat} {p : M.Pk} {v : Value} (h : QkAt w pb p) (hb : b < pb) : QkAt (w.setCell ⟨b, o, none⟩ v) pb p := by
  obtain ⟨B, nv, bv, fv, h⟩ := h
  have hlt := h.lt
  have kk : ∀ g o', pb ≤ g → CellS w (w.setCell ⟨b, o, none⟩ v) g o' := fun g o' hg => setS (by omega)
  refine ⟨B, nv, bv, fv, (kk pb 0 (Nat.le_refl _)).1.trans h.c0, (kk pb 1 (Nat.le_refl _)).1.trans h.c1, (kk pb 2 (Nat.le_refl _)).1.trans h.c2, (kk pb 3 (Nat.le_refl _)).1.trans h.c3, (kk pb 4 (Nat.le_refl _)).1.trans h.c4, fun o' => by rw [World.frozen?_setCell]; exact h.fz o', hlt, by rw [setC_size]; exact h.le, h.needs.keep fun g o' hg _ => kk g o' (by omega), h.bars.keep fun g o' hg _ => kk g o' (by omega), ownsRow_setCell_below h.files (show b < B by omega) _, h.nnil, h.fnil⟩
set_option maxRecDepth 100000 in
set_option maxHeartbeats 2000000 in
theorem take_end (T : ByteArray) (fv : Value) (w : World) (rb lb : Nat) (ps : List ByteArray) (k : Nat) (hR : RAt w rb lb ps k) (hk : k = ps.length) :
    Calls Tryz.prog 127 #[.pointer (some ⟨rb, 0, none⟩), .string T, fv] w fun e w' => e = .returned (.bool false) ∧ Below w.heap.size w w' := by
  have q0 := hR.c0
  have q1 := hR.c1
  have hgt : (ps.length : Int) < (k : Int) + 1 := by omega
  clear hR
  go_enter Tryz.func127, Tryz.ntmps127
  go_wp2
  go_quiet (fail)
  go_wp2
  go_ret
  exact ⟨rfl, below_same w _⟩
set_option maxRecDepth 100000 in
set_option maxHeartbeats 2000000 in
theorem take_miss (T : ByteArray) (fv : Value) (w : World) (rb lb : Nat) (ps : List ByteArray) (k : Nat) (hR : RAt w rb lb ps k) (hk : k < ps.length) (hl : ps.length ≤ 100000) (hp : Lib.hasPrefix ps[k].data.toList T.data.toList = false) :
    Calls Tryz.prog 127 #[.pointer (some ⟨rb, 0, none⟩), .string T, fv] w fun e w' => e = .returned (.bool false) ∧ Below w.heap.size w w' := by
  have q0 := hR.c0
  have q1 := hR.c1
  have q2 := hR.cl k hk
  have hgt : ¬ (ps.length : Int) < (k : Int) + 1 := by omega
  obtain ⟨A, hA⟩ := bytes_ex (Lib.trimPrefix ps[k].data.toList T.data.toList)
  have cP := fun wx => prefix_lib ps[k] T A _ wx hA.symm hp
  clear hR hp hA
  go_enter Tryz.func127, Tryz.ntmps127
  go_wp2
  go_quiet (fail)
  go_wp2
  go_quiet ((go_at_call 168; go_must (exact quiet_add (cP _))))
  go_wp2
  go_ret
  exact ⟨rfl, below_drewN (Below.refl _ w) _⟩
set_option maxRecDepth 100000 in
set_option maxHeartbeats 2000000 in
theorem take_hit (T A : ByteArray) (f : FuncId) (O : Option M.Pk) (w : World) (rb lb pb : Nat) (ps : List ByteArray) (k : Nat) (hR : RAt w rb lb ps k) (hk : k < ps.length) (hl : ps.length ≤ 100000) (hlp : lb < pb) (hpw : pb ≤ w.heap.size)
    (cP : ∀ wx, Calls Tryz.prog 168 #[.string ps[k], .string T] wx fun e w' => e = .returned (.tuple #[.string A, .bool true]) ∧ w' = wx)
    (he : ∀ args w, (callFunc f args).run Tryz.prog w = .ok (.enter f args) w)
    (cF : ∀ wx, Below w.heap.size w wx → Calls Tryz.prog f #[.string A, .pointer (some ⟨pb, 0, none⟩)] wx (ClPost O pb wx)) :
    Calls Tryz.prog 127 #[.pointer (some ⟨rb, 0, none⟩), .string T, .func (.func f) #[] #[.pointer (some ⟨pb, 0, none⟩)]] w (TakePost (O.map fun q => (true, k + 1, q)) rb lb pb ps w) := by
  have q0 := hR.c0
  have q1 := hR.c1
  have q2 := hR.cl k hk
  have HR : Hid (RAt w rb lb ps k) := hR
  have hgt : ¬ (ps.length : Int) < (k : Int) + 1 := by omega
  have hrb : rb < pb := Nat.lt_trans hR.lt hlp
  clear hR
  obtain ⟨O2, HO0⟩ : ∃ O2, O2 = O.map fun q => (true, k + 1, q) := ⟨_, rfl⟩
  rw [← HO0]
  have HO : Hid _ := HO0
  clear HO0
  cases O with
  | none =>
    replace cF : ∀ wx, Below w.heap.size w wx → Calls Tryz.prog f #[.string A, .pointer (some ⟨pb, 0, none⟩)] wx fun e w' => Thrown e ∧ Below pb wx w' := fun wx hb => (cF wx hb).mono fun e w' h => ⟨h.2, h.1⟩
    go_enter Tryz.func127, Tryz.ntmps127
    go_wp2
    go_quiet (fail)
    go_wp2
    go_quiet ((go_at_call 168; go_must (exact quiet_add (cP _))))
    go_wp2_with (go_at_fn f; refine (cF _ (below_drewN (Below.refl _ w) _)).mono ?_; rintro e w' ⟨rfl, hB⟩)
    refine ⟨rfl, ?_⟩
    have e := HO.out
    subst e
    exact ⟨rfl, ((below_drewN (Below.refl _ w) _).mono hpw).trans hB⟩
  | some q =>
    replace cF : ∀ wx, Below w.heap.size w wx → Calls Tryz.prog f #[.string A, .pointer (some ⟨pb, 0, none⟩)] wx fun e w' => e = .returned (.tuple #[]) ∧ QkAt w' pb q ∧ Below pb wx w' := fun wx hb => (cF wx hb).mono fun e w' h => ⟨h.2.1, h.2.2, h.1⟩
    go_enter Tryz.func127, Tryz.ntmps127
    go_wp2
    go_quiet (fail)
    go_wp2
    go_quiet ((go_at_call 168; go_must (exact quiet_add (cP _))))
    go_wp2_with fail
    refine (cF _ (below_drewN (Below.refl _ w) _)).mono ?_
    rintro e w1 ⟨rfl, hQ, hB⟩
    replace hB : Below pb w w1 := ((below_drewN (Below.refl _ w) _).mono hpw).trans hB
    have hR1 := HR.out.below hB hlp
    have r1 := hR1.c1
    have rf := hR1.fz 1
    have HR1 : Hid (RAt w1 rb lb ps k) := hR1
    clear hR1 q0 q1 q2
    go_wp2
    go_ret
    have e := HO.out
    subst e
    exact ⟨rfl, HR1.out.next hk, hQ.set hrb, (hB.mono (Nat.le_of_lt hrb)).setCell (Nat.le_refl _) _, (KeepB.below hB).set⟩
theorem take_any (T : ByteArray) (f : FuncId) (st : List UInt8 → Option M.Pk) (w : World) (rb lb pb : Nat) (ps : List ByteArray) (k : Nat) (p : M.Pk) (hR : RAt w rb lb ps k) (hQ : QkAt w pb p) (hl : ps.length ≤ 100000) (hlp : lb < pb)
    (hsz : ∀ q ∈ ps, q.size ≤ 100000) (he : ∀ args w, (callFunc f args).run Tryz.prog w = .ok (.enter f args) w)
    (cF : ∀ (A : ByteArray) wx, A.size ≤ 100000 → Below w.heap.size w wx → Calls Tryz.prog f #[.string A, .pointer (some ⟨pb, 0, none⟩)] wx (ClPost (st A.data.toList) pb wx)) :
    Calls Tryz.prog 127 #[.pointer (some ⟨rb, 0, none⟩), .string T, .func (.func f) #[] #[.pointer (some ⟨pb, 0, none⟩)]] w (TakePost (takeS T.data.toList st (ps.map fun q => q.data.toList) k p) rb lb pb ps w) := by
  have hpw := hQ.lt
  have hrb : rb < pb := Nat.lt_trans hR.lt hlp
  have stay : ∀ w', Below w.heap.size w w' → RAt w' rb lb ps k ∧ QkAt w' pb p ∧ Below rb w w' ∧ KeepB w w' rb pb := fun w' hb => ⟨hR.below (hb.mono (Nat.le_of_lt hpw)) hlp, hQ.below hb, hb.mono (by omega), KeepB.below (hb.mono (Nat.le_of_lt hpw))⟩
  by_cases hk : k < ps.length
  · have e1 : (ps.map fun q => q.data.toList)[k]? = some ps[k].data.toList := by simp [hk]
    unfold takeS
    rw [e1]
    cases hp : Lib.hasPrefix ps[k].data.toList T.data.toList with
    | false =>
      simp only [hp, Bool.false_eq_true, if_false]
      exact (take_miss T _ w rb lb ps k hR hk hl hp).mono fun e w' h => ⟨h.1, stay w' h.2⟩
    | true =>
      obtain ⟨A, hA⟩ := bytes_ex (Lib.trimPrefix ps[k].data.toList T.data.toList)
      have hA2 : A.data.toList = ps[k].data.toList.drop T.data.toList.length := by rw [hA]; unfold Lib.trimPrefix; rw [if_pos hp]
      have hAs : A.size ≤ 100000 := by
        have h1 := hsz _ (List.getElem_mem hk)
        have h2 := len_data ps[k]
        have h3 := trimP_len ps[k].data.toList T.data.toList
        rw [size_of hA]
        omega
      simp only [hp, if_true]
      have := take_hit T A f (st A.data.toList) w rb lb pb ps k hR hk hl hlp (Nat.le_of_lt hpw) (fun wx => prefix_lib ps[k] T A _ wx hA.symm hp) he (fun wx hb => cF A wx hAs hb)
      rw [hA2] at this
      cases ho : st (ps[k].data.toList.drop T.data.toList.length) with
      | none => rw [ho] at this; exact this
      | some q => rw [ho] at this; exact this
  · have e1 : (ps.map fun q => q.data.toList)[k]? = none := by simp; omega
    have hkk : k = ps.length := by have := hR.kl; omega
    unfold takeS
    rw [e1]
    exact (take_end T _ w rb lb ps k hR hkk).mono fun e w' h => ⟨h.1, stay w' h.2⟩
end Go.Proofs.YtgnfknjopafngaaGreatDoor
namespace Go.Proofs.YtgnfknjopafngaaGreatDoor
open Go
def fileLt (x y : M.Fl) : Bool := decide (Lib.compareBytes x.path y.path < 0)
theorem less_is : ∀ (a b : List UInt8), Op.bytesLess a b = decide (Lib.compareBytes a b < 0)
  | [], [] => by decide
  | [], _ :: _ => by simp [Op.bytesLess, Lib.compareBytes]
  | _ :: _, [] => by simp [Op.bytesLess, Lib.compareBytes]
  | x :: a, y :: b => by
    have ih := less_is a b
    unfold Op.bytesLess Lib.compareBytes
    by_cases h1 : x < y
    · simp [h1]
    · by_cases h2 : y < x
      · have : ¬ x = y := fun e => h1 (e ▸ h2)
        simp [h1, h2, this]
      · have : x = y := UInt8.le_antisymm (UInt8.not_lt.1 h2) (UInt8.not_lt.1 h1)
        simp [this, ih]
theorem swp_is [Inhabited M.Fl] (l : List M.Fl) (k : Nat) (h : k + 1 < l.length) : Sort.swp l.toArray (k + 1) k = (M.swapAt l k).toArray := by
  unfold Sort.swp M.swapAt
  rw [List.getElem?_eq_getElem (by omega), List.getElem?_eq_getElem h]
  rw [getElem!_pos l.toArray k (by simp; omega), getElem!_pos l.toArray (k + 1) (by simpa using h)]
  simp
theorem ins_is [Inhabited M.Fl] : ∀ (k : Nat) (l : List M.Fl), k < l.length → Sort.insInner fileLt 0 k l.toArray = (M.bub k l).toArray
  | 0, l, _ => rfl
  | k + 1, l, h => by
    unfold Sort.insInner M.bub
    rw [List.getElem?_eq_getElem (by omega), List.getElem?_eq_getElem h]
    rw [getElem!_pos l.toArray k (by simp; omega), getElem!_pos l.toArray (k + 1) (by simpa using h)]
    simp only [List.getElem_toArray, fileLt, less_is, decide_eq_true_eq, Nat.zero_lt_succ, gt_iff_lt, decide_true, Bool.true_and]
    by_cases hc : Lib.compareBytes l[k + 1].path l[k].path < 0
    · rw [if_pos hc, if_pos hc, swp_is l k h]
      exact ins_is k (M.swapAt l k) (by rw [M.swapAt_len]; omega)
    · rw [if_neg hc, if_neg hc]
theorem outer_is [Inhabited M.Fl] : ∀ (m i : Nat) (l : List M.Fl), l.length ≤ m + i → Sort.insOuter fileLt 0 l.length i l.toArray = (M.srt m i l).toArray
  | 0, i, l, h => by
    rw [Sort.insOuter, if_neg (by omega)]; rfl
  | m + 1, i, l, h => by
    rw [Sort.insOuter, M.srt]
    by_cases hi : i < l.length
    · rw [if_pos hi, if_pos hi, ins_is i l hi]
      have := outer_is m (i + 1) (M.bub i l) (by rw [M.bub_len]; omega)
      rw [M.bub_len] at this
      exact this
    · rw [if_neg hi, if_neg hi]
end Go.Proofs.YtgnfknjopafngaaGreatDoor
namespace Go.Proofs.YtgnfknjopafngaaGreatDoor
open Go.RowKit Go.Sort Go.Shelf
set_option maxHeartbeats 1000000 in
theorem cmpFile_any (x y : M.Fl) (W : World) :
    Calls Tryz.prog 140 #[.agg #[strV x.path, strV x.content], .agg #[strV y.path, strV y.content]] W fun e w' => e = .returned (.int .i64 (Lib.compareBytes x.path y.path)) ∧ ∃ q os', w' = grow (W.drewN q) os' := by
  obtain ⟨P, C⟩ := x
  obtain ⟨P2, C2⟩ := y
  have hcon := fun W' => Tryz.strings_Compare ⟨P.toArray⟩ ⟨P2.toArray⟩ W'
  have e0 : Lib.compareBytes (ByteArray.mk P.toArray).data.toList (ByteArray.mk P2.toArray).data.toList = Lib.compareBytes P P2 := rfl
  rw [e0] at hcon
  unfold strV
  generalize Lib.compareBytes P P2 = r at hcon ⊢
  go_enter Tryz.func140, Tryz.ntmps140
  go_wp2_with (go_at_call 141; refine (hcon _).mono ?_; rintro e w' ⟨rfl, rfl⟩)
  go_ret
  exact ⟨rfl, 0, _, by rw [alloc_eq_grow, alloc_eq_grow, grow_grow]; rfl⟩
set_option maxHeartbeats 1000000 in
theorem insSort_nil (fv : Value) (w : World) :
    Calls Tryz.prog 221 #[.slice none 0 0, .int .i64 0, .int .i64 0, fv] w fun e w' => e = .returned (.tuple #[]) ∧ w' = w := by
  go_enter Tryz.func221, Tryz.ntmps221
  go_wp2
  refine wp_loop_rounds 1 ?_
  rw [rounds_succ]
  go_wp2
  go_end0
  exact ⟨rfl, rfl⟩
set_option maxHeartbeats 2000000 in
theorem pdq_nil (lim : Int) (fv : Value) (w : World) :
    Calls Tryz.prog 178 #[.slice none 0 0, .int .i64 0, .int .i64 0, .int .i64 lim, fv] w fun e w' => e = .returned (.tuple #[]) ∧ w' = w := by
  have hi := insSort_nil fv
  go_enter Tryz.func178, Tryz.ntmps178
  go_wp2
  refine wp_loop_rounds 1 ?_
  rw [rounds_succ]
  go_wp2_with (go_at_call 221; refine (hi _).mono ?_; rintro e w' ⟨rfl, rfl⟩)
  (try simp only [Exit.inBlock, Exit.then]); refine bodyPost_ret (results_none rfl _ _ _) rfl ?_
  exact ⟨rfl, rfl⟩
set_option maxHeartbeats 2000000 in
theorem sort_nil (fv : Value) (w : World) :
    Calls Tryz.prog 139 #[.slice none 0 0, fv] w fun e w' => e = .returned (.tuple #[]) ∧ w' = w := by
  have hp := fun lim => pdq_nil lim fv
  have hl : ∀ W, Calls Tryz.prog 179 #[.int .u64 0] W fun e w' => e = .returned (.int .i64 (Lib.bitLen 0 : Nat)) ∧ w' = W := fun W => Tryz.bits_Len 0 W (by omega) (by omega)
  go_enter Tryz.func139, Tryz.ntmps139
  go_wp2_with (first | (go_at_call 179; refine (hl _).mono ?_; rintro e w' ⟨rfl, rfl⟩) | (go_at_call 178; refine (hp _ _).mono ?_; rintro e w' ⟨rfl, rfl⟩))
  go_end0
  exact ⟨rfl, rfl⟩
theorem grownBy_sortedK [Inhabited M.Fl] {w : World} {g n : Nat} {os : Array Obj} (d : Array M.Fl) : w.grownBy (sortWorldK flCells 2 w g 0 n d os) (some g) := by
  unfold sortWorldK putRowK
  refine ⟨rfl, rfl, rfl, by simp, fun k hk hne => ?_⟩
  rw [heap_grow_old _ _ (by simpa using hk)]
  have : g ≠ k := fun e => hne (by rw [e])
  simp [putRow, mapBlock, Sort.ahead, Array.getElem?_modify, this]
theorem strBlk_sorted [Inhabited M.Fl] {w : World} {g n : Nat} {os : Array Obj} (d : Array M.Fl) {cur : Array Value} {e : TypeId} {fz : Nat × Nat} (hg : w.heap[g]? = some (.cells cur e fz)) (h : StrBlk (sortWorldK flCells 2 w g 0 n d os) g) : e = 9 := by
  obtain ⟨c, f, he⟩ := h
  unfold sortWorldK putRowK at he
  have hlt := (Array.getElem?_eq_some_iff.1 hg).1
  rw [heap_grow_old _ _ (by simpa [putRow, mapBlock, Sort.ahead] using hlt)] at he
  simp [putRow, mapBlock, Sort.ahead, Array.getElem?_modify, hg, onCells] at he
  exact he.2.1
theorem flat_get [Inhabited M.Fl] (l : List M.Fl) (t : Nat) (h : t < l.length * 2) : (flsCells l)[t]? = some ((flatK flCells 2 l.toArray)[t]!) := by
  rw [get_flatK _ _ _ _ (by simpa using h)]
  have hd : t / 2 < l.length := by omega
  rw [getElem!_pos l.toArray (t / 2) (by simpa using hd)]
  rcases Nat.mod_two_eq_zero_or_one t with h0 | h0
  · have := fl_cell hd
    rw [show 2 * (t / 2) = t by omega] at this
    rw [this, h0]; rfl
  · have := fl_cell2' hd
    rw [show 2 * (t / 2) + 1 = t by omega] at this
    rw [this, h0]; rfl
theorem srtLen : ∀ (m i : Nat) (l : List M.Fl), (M.srt m i l).length = l.length
  | 0, _, l => rfl
  | m + 1, i, l => by
    unfold M.srt
    split
    · rw [srtLen m, M.bub_len]
    · rfl
theorem sortLen (l : List M.Fl) : (M.sortF l).length = l.length := srtLen _ _ _
def SortPost (l : List M.Fl) (v : Value) (w : World) (e : Ending) (w' : World) : Prop :=
  e = .returned (.tuple #[]) ∧ w.grownBy w' v.ownBlock ∧ RowIn w' 0 w'.heap.size v l.length (flsCells (M.sortF l))
theorem sort_lib (l : List M.Fl) (v : Value) (B : Nat) (w : World) (h : w.ownsRow B 159 2 v l.length (flsCells l)) (hl : l.length ≤ 12) :
    Calls Tryz.prog 139 #[v, .func (.func 140) #[] #[]] w (SortPost l v w) := by
  haveI : Inhabited M.Fl := ⟨⟨[], []⟩⟩
  rcases RowIn.own h with ⟨rfl, h0, _⟩ | ⟨g, cap, rfl, h1, h2, h3, h4⟩
  · obtain rfl := List.length_eq_zero_iff.mp h0
    refine (sort_nil _ w).mono fun e w' hh => ?_
    obtain ⟨he, rfl⟩ := hh
    exact ⟨he, ⟨rfl, rfl, rfl, Nat.le_refl _, fun _ _ _ => rfl⟩, .inl ⟨rfl, rfl, rfl⟩⟩
  · have hH : HoldsK flCells 2 w g 0 l.toArray := fun j hj => by
      rw [size_flatK, List.size_toArray] at hj
      rw [Nat.zero_add]
      exact ⟨h4 j _ (flat_get l j hj), h.frozenAt j⟩
    have hc := AnyQ.slices_SortFunc_small Tryz.laySort 2 Tryz.isAgg159 Tryz.sizeOf159 flCells (fun _ => rfl) (fun x u hu => by simp [flCells, strV] at hu; rcases hu with rfl | rfl <;> rfl)
      (fun x y => Lib.compareBytes x.path y.path) 140 #[] g 0 cap l.toArray w (enters_of Tryz.func140 (by kernel_rfl) rfl) (fun _ _ _ _ x y => cmpFile_any x y _) hH h3.1 (by simpa using hl)
      (fun n W hn => (Tryz.bits_Len n W (by omega) (by omega)).mono fun _ _ ⟨he, hw⟩ => ⟨⟨_, he⟩, hw⟩)
    rw [List.size_toArray] at hc
    refine hc.mono fun e w' hh => ?_
    obtain ⟨he, n, os, hw⟩ := hh
    have es : Sort.insertionSort (ltOf fun x y : M.Fl => Lib.compareBytes x.path y.path) l.toArray 0 l.length = (M.sortF l).toArray := by
      unfold Sort.insertionSort M.sortF
      exact outer_is l.length 1 l (by omega)
    rw [es] at hw
    have hlen : (M.sortF l).length = l.length := sortLen l
    subst hw
    refine ⟨he, grownBy_sortedK _, .inr ⟨g, cap, rfl, h1, Nat.zero_le _, ?_, fun j u hj => ?_⟩⟩
    · refine ⟨Nat.lt_of_lt_of_le h3.1 (size_sortWorldK_c _ _ _ _ _ _ _ _), fun e => ?_⟩
      obtain ⟨_, ⟨e', _⟩ | ⟨g', cap', cur, e', _, hgb, _⟩⟩ := h
      · cases e'
      · cases e'
        exact absurd (strBlk_sorted _ hgb e) (by decide)
    · have hh := holdsK_sortWorldK_c flCells 2 w g 0 l.toArray (M.sortF l).toArray n os hH h3.1 (by simpa using hlen)
      have hj2 : j < (M.sortF l).length * 2 := by
        have := (List.getElem?_eq_some_iff.1 hj).1
        rw [flsCells_len] at this
        exact this
      have := (hh j (by rw [size_flatK, List.size_toArray]; exact hj2)).1
      rw [Nat.zero_add] at this
      rw [this]
      have e2 := flat_get (M.sortF l) j hj2
      rw [hj] at e2
      exact e2.symm
end Go.Proofs.YtgnfknjopafngaaGreatDoor
namespace Go.Proofs.YtgnfknjopafngaaGreatDoor
def stTitle (p : M.Pk) (t : List UInt8) : Option M.Pk := (titleC t).map fun x => { p with name := x.1, ver := x.2 }
def stNeeds (p : M.Pk) (t : List UInt8) : Option M.Pk := (listC groupC 3 t [44, 32]).map fun x => { p with needs := x }
def stBars (p : M.Pk) (t : List UInt8) : Option M.Pk := (listC choiceC 3 t [44, 32]).map fun x => { p with bars := x }
def stFile (p : M.Pk) (t : List UInt8) : Option M.Pk := (addC p.files t).map fun x => { p with files := x }
theorem take_cases (T : List UInt8) (st : List UInt8 → Option M.Pk) (ls : List (List UInt8)) (k : Nat) (p : M.Pk) :
    (ls.length ≤ k ∧ takeS T st ls k p = some (false, k, p)) ∨
    (∃ (h : k < ls.length), Lib.hasPrefix ls[k] T = false ∧ takeS T st ls k p = some (false, k, p)) ∨
    (∃ (h : k < ls.length), Lib.hasPrefix ls[k] T = true ∧ st (ls[k].drop T.length) = none ∧ takeS T st ls k p = none) ∨
    (∃ (h : k < ls.length) (q : M.Pk), Lib.hasPrefix ls[k] T = true ∧ st (ls[k].drop T.length) = some q ∧ takeS T st ls k p = some (true, k + 1, q)) := by
  unfold takeS
  by_cases hk : k < ls.length
  · right
    rw [List.getElem?_eq_getElem hk]
    cases hp : Lib.hasPrefix ls[k] T with
    | false => left; exact ⟨hk, hp, by simp [hp]⟩
    | true =>
      right
      cases hs : st (ls[k].drop T.length) with
      | none => left; exact ⟨hk, hp, hs, by simp [hp, hs]⟩
      | some q => right; exact ⟨hk, q, hp, hs, by simp [hp, hs]⟩
  · left
    exact ⟨by omega, by rw [List.getElem?_eq_none (by omega)]⟩
theorem title_take (ls : List (List UInt8)) (p : M.Pk) :
    match takeS packW (stTitle p) ls 0 p with
    | none => titlesC ls p = .inl 1
    | some (false, k, _) => k = 0 ∧ titlesC ls p = .inl 1
    | some (true, k, q) => titlesC ls p = needsC (ls.drop k) k q ∧ q.needs = p.needs ∧ q.bars = p.bars ∧ q.files = p.files := by
  rcases take_cases packW (stTitle p) ls 0 p with ⟨h, e⟩ | ⟨h, hp, e⟩ | ⟨h, hp, hs, e⟩ | ⟨h, q, hp, hs, e⟩
  · rw [e]
    obtain rfl := List.length_eq_zero_iff.1 (Nat.le_zero.1 h)
    exact ⟨rfl, rfl⟩
  · rw [e]
    cases ls with
    | nil => simp at h
    | cons s r => exact ⟨rfl, by unfold titlesC; simp only [List.getElem_cons_zero] at hp; simp [hp]⟩
  · rw [e]
    cases ls with
    | nil => simp at h
    | cons s r =>
      simp only [List.getElem_cons_zero] at hp hs
      unfold titlesC
      have ht : titleC (s.drop 8) = none := by
        unfold stTitle at hs
        exact Option.map_eq_none_iff.1 hs
      simp [hp, ht]
  · rw [e]
    cases ls with
    | nil => simp at h
    | cons s r =>
      simp only [List.getElem_cons_zero] at hp hs
      unfold stTitle at hs
      obtain ⟨x, hx, rfl⟩ := Option.map_eq_some_iff.1 hs
      have hx2 : titleC (s.drop 8) = some x := hx
      refine ⟨?_, rfl, rfl, rfl⟩
      unfold titlesC
      simp [hp, hx2]
theorem drop_cons {ls : List (List UInt8)} {k : Nat} (h : k < ls.length) : ls.drop k = ls[k] :: ls.drop (k + 1) := (List.getElem_cons_drop h).symm
theorem needs_take (ls : List (List UInt8)) (k : Nat) (p : M.Pk) :
    match takeS M.needsW (stNeeds p) ls k p with
    | none => needsC (ls.drop k) k p = .inl (k + 1)
    | some (_, j, q) => needsC (ls.drop k) k p = barsC (ls.drop j) j q ∧ q.bars = p.bars ∧ q.files = p.files := by
  rcases take_cases M.needsW (stNeeds p) ls k p with ⟨h, e⟩ | ⟨h, hp, e⟩ | ⟨h, hp, hs, e⟩ | ⟨h, q, hp, hs, e⟩
  · rw [e]
    refine ⟨?_, rfl, rfl⟩
    rw [List.drop_of_length_le h]; rfl
  · rw [e]
    refine ⟨?_, rfl, rfl⟩
    rw [drop_cons h]; unfold needsC; simp [hp]
  · rw [e]
    have ht : listC groupC 3 (ls[k].drop 6) [44, 32] = none := by unfold stNeeds at hs; exact Option.map_eq_none_iff.1 hs
    show needsC (ls.drop k) k p = _
    rw [drop_cons h]; unfold needsC
    have ht2 : listC (fun t => listC choiceC 3 t [32, 124, 32]) 3 (ls[k].drop 6) [44, 32] = none := ht
    simp [hp, ht2]
  · rw [e]
    unfold stNeeds at hs
    obtain ⟨x, hx, rfl⟩ := Option.map_eq_some_iff.1 hs
    have ht2 : listC (fun t => listC choiceC 3 t [32, 124, 32]) 3 (ls[k].drop 6) [44, 32] = some x := hx
    refine ⟨?_, rfl, rfl⟩
    rw [drop_cons h]; unfold needsC
    simp [hp, ht2]
theorem bars_take (ls : List (List UInt8)) (k : Nat) (p : M.Pk) :
    match takeS M.barsW (stBars p) ls k p with
    | none => barsC (ls.drop k) k p = .inl (k + 1)
    | some (_, j, q) => barsC (ls.drop k) k p = filesC (ls.drop j) j q ∧ q.files = p.files := by
  rcases take_cases M.barsW (stBars p) ls k p with ⟨h, e⟩ | ⟨h, hp, e⟩ | ⟨h, hp, hs, e⟩ | ⟨h, q, hp, hs, e⟩
  · rw [e]
    refine ⟨?_, rfl⟩
    rw [List.drop_of_length_le h]; rfl
  · rw [e]
    refine ⟨?_, rfl⟩
    rw [drop_cons h]; unfold barsC; simp [hp]
  · rw [e]
    have ht : listC choiceC 3 (ls[k].drop 5) [44, 32] = none := by unfold stBars at hs; exact Option.map_eq_none_iff.1 hs
    show barsC (ls.drop k) k p = _
    rw [drop_cons h]; unfold barsC
    simp [hp, ht]
  · rw [e]
    unfold stBars at hs
    obtain ⟨x, hx, rfl⟩ := Option.map_eq_some_iff.1 hs
    have ht2 : listC choiceC 3 (ls[k].drop 5) [44, 32] = some x := hx
    refine ⟨?_, rfl⟩
    rw [drop_cons h]; unfold barsC
    simp [hp, ht2]
def FewF (p : M.Pk) : Prop := p.files.length ≤ 4 ∧ ∀ f ∈ p.files, f.path.length ≤ 100000
theorem addC_few {l r : List M.Fl} {t : List UInt8} (h : addC l t = some r) (ht : t.length ≤ 100000) (hl : ∀ f ∈ l, f.path.length ≤ 100000) : r.length ≤ 4 ∧ ∀ f ∈ r, f.path.length ≤ 100000 := by
  unfold addC at h
  split at h
  · cases h
  · rename_i g hg
    split at h
    · rename_i hc
      cases h
      refine ⟨by simp; omega, fun f hf => ?_⟩
      rcases List.mem_append.1 hf with hf | hf
      · exact hl f hf
      · simp at hf
        subst hf
        have := fileS_len hg
        omega
    · cases h
theorem file_take (ls : List (List UInt8)) (k : Nat) (p : M.Pk) (hz : ∀ s ∈ ls, s.length ≤ 100000) (hf : FewF p) :
    match takeS M.fileW (stFile p) ls k p with
    | none => filesC (ls.drop k) k p = .inl (k + 1)
    | some (true, j, q) => filesC (ls.drop k) k p = filesC (ls.drop j) j q ∧ j = k + 1 ∧ k < ls.length ∧ FewF q
    | some (false, j, q) => j = k ∧ q = p ∧ (k < ls.length → filesC (ls.drop k) k p = .inl (k + 1)) ∧ (ls.length ≤ k → filesC (ls.drop k) k p = .inr p) := by
  rcases take_cases M.fileW (stFile p) ls k p with ⟨h, e⟩ | ⟨h, hp, e⟩ | ⟨h, hp, hs, e⟩ | ⟨h, q, hp, hs, e⟩
  · rw [e]
    refine ⟨rfl, rfl, fun h2 => by omega, fun _ => ?_⟩
    rw [List.drop_of_length_le h]; rfl
  · rw [e]
    refine ⟨rfl, rfl, fun _ => ?_, fun h2 => by omega⟩
    rw [drop_cons h]; unfold filesC; simp [hp]
  · rw [e]
    have ht : addC p.files (ls[k].drop 5) = none := by unfold stFile at hs; exact Option.map_eq_none_iff.1 hs
    show filesC (ls.drop k) k p = _
    rw [drop_cons h]; unfold filesC
    simp [hp, ht]
  · rw [e]
    unfold stFile at hs
    obtain ⟨x, hx, rfl⟩ := Option.map_eq_some_iff.1 hs
    have ht2 : addC p.files (ls[k].drop 5) = some x := hx
    refine ⟨?_, rfl, h, addC_few ht2 ?_ hf.2⟩
    · rw [drop_cons h]
      conv => lhs; unfold filesC
      simp [hp, ht2]
    · have := hz _ (List.getElem_mem h)
      rw [List.length_drop]
      omega
end Go.Proofs.YtgnfknjopafngaaGreatDoor
namespace Go.Proofs.YtgnfknjopafngaaGreatDoor
open Go.RowKit
structure PkOk (p : M.Pk) : Prop where
  needs : p.needs.length ≤ 3
  bars : p.bars.length ≤ 3
  files : p.files.length ≤ 4
  paths : ∀ f ∈ p.files, f.path.length ≤ 100000
theorem choicesS_len {s sep : List UInt8} {m : Nat} {l : List M.Ch} (h : M.choicesS s sep m = some l) : l.length ≤ m := by
  unfold M.choicesS at h
  split at h
  · cases h
  · split at h
    · cases h; assumption
    · cases h
theorem lineS_ok {p p' : M.Pk} {k : Nat} {s : List UInt8} (hp : PkOk p) (hs : s.length ≤ 100000) (h : M.lineS p k s = some p') : PkOk p' := by
  unfold M.lineS at h
  split at h
  · split at h
    · cases h
    · cases h; exact ⟨hp.needs, hp.bars, hp.files, hp.paths⟩
  · split at h
    · split at h
      · cases h
      · split at h
        · cases h; exact ⟨by assumption, hp.bars, hp.files, hp.paths⟩
        · cases h
    · split at h
      · split at h
        · cases h
        · rename_i l hl; cases h; exact ⟨hp.needs, choicesS_len hl, hp.files, hp.paths⟩
      · split at h
        · rename_i hc
          split at h
          · cases h
          · rename_i f hf
            split at h
            · cases h
              refine ⟨hp.needs, hp.bars, by simp; omega, fun g hg => ?_⟩
              rcases List.mem_append.mp hg with hg | hg
              · exact hp.paths g hg
              · simp at hg
                subst hg
                unfold M.fileS at hf
                split at hf
                · cases hf
                · split at hf
                  · cases hf; simp; omega
                  · cases hf
            · cases h
        · cases h
theorem line_any (s : ByteArray) (k : Nat) (w : World) (pb : Nat) (p : M.Pk) (hP : PkAt w pb p) (hO : PkOk p) (hk2 : k ≤ 1000000) (hl : s.size ≤ 100000) :
    Calls Tryz.prog 37 #[.pointer (some ⟨pb, 0, none⟩), .int .i64 k, .string s] w (LinePost s k pb p w) := by
  obtain ⟨B, nv, bv, fv, hP⟩ := hP
  by_cases hk : k = 0
  · subst hk
    refine (line0_any s w pb B p nv bv fv hP hl).mono fun e w' ⟨h1, h2, h3⟩ => ?_
    have e0 : M.lineS p 0 s.data.toList = (titleB s).map (fun x => { p with name := x.1, ver := x.2 }) := by
      unfold M.lineS titleB
      rw [if_pos rfl]
      cases M.titleS s.data.toList <;> rfl
    refine ⟨by rw [e0, Option.isSome_map]; exact h1, fun p' hp' => ?_, h3⟩
    rw [e0] at hp'
    cases ht : titleB s with
    | none => rw [ht] at hp'; cases hp'
    | some x => rw [ht] at hp'; cases hp'; exact ⟨B, nv, bv, fv, h2 x.1 x.2 ht⟩
  · have hk' : 0 < k := by omega
    have o1 := hO.needs
    have o2 := hO.bars
    have o3 := hO.files
    by_cases h1 : M.begins s.data.toList M.needsW = true ∧ p.needs.length + p.bars.length + p.files.length = 0
    · exact line_needs s k w pb B p nv bv fv hP hk' hk2 hl h1.1 h1.2
    · by_cases h2 : M.begins s.data.toList M.barsW = true ∧ p.bars.length + p.files.length = 0
      · exact line_bars s k w pb B p nv bv fv hP hk' hk2 hl h2.1 h2.2
      · by_cases h3 : M.begins s.data.toList M.fileW = true ∧ p.files.length < 4
        · exact line_file s k w pb B p nv bv fv hP hk' hk2 hl h3.1 h3.2 (fun f hf => by have := hO.paths f hf; omega)
        · exact line_none s k w pb B p nv bv fv hP hk' hk2 (by omega) (by omega) (by omega) h1 h2 h3
end Go.Proofs.YtgnfknjopafngaaGreatDoor
