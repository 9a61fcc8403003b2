import Derived.Test.YtgnfknjopafngaaGreatDoorKfk
import Derived.Test.YtgnfknjopafngaaGreatDoorKfl
import Derived.LaidEql
import Derived.Stop.Asserts
import Derived.RowKitTokens
import Derived.Lib.IfaceEq
import Derived.Test.YtgnfknjopafngaaGreatDoorKfa
import Derived.Lib.ReflectliteSlice
namespace Go.Proofs.YtgnfknjopafngaaGreatDoor
open Go.RowKit
def packT : ByteArray := ⟨#[112, 97, 99, 107, 97, 103, 101, 32]⟩
theorem PkFrom.lower {lo lo' : Nat} {w : World} {p : M.Pk} {v : Value} (h : PkFrom lo w p v) (hl : lo' ≤ lo) : PkFrom lo' w p v := by
  obtain ⟨nv, bv, fv, h1, h2, h3, h4⟩ := h
  exact ⟨nv, bv, fv, h1, h2.wide hl (Nat.le_refl _), h3.wide hl (Nat.le_refl _), h4.wide hl (Nat.le_refl _)⟩
theorem PkFrom.set {lo b o : Nat} {w : World} {p : M.Pk} {v u : Value} (h : PkFrom lo w p v) (hb : b < lo) : PkFrom lo (w.setCell ⟨b, o, none⟩ u) p v := by
  obtain ⟨nv, bv, fv, h1, h2, h3, h4⟩ := h
  have kk : ∀ g o', lo ≤ g → g < w.heap.size → CellS w (w.setCell ⟨b, o, none⟩ u) g o' := fun g o' hg _ => setS (by omega)
  refine ⟨nv, bv, fv, h1, ?_, ?_, ?_⟩
  · rw [setC_size]; exact h2.keep kk
  · rw [setC_size]; exact h3.keep kk
  · rw [setC_size]; exact h4.keep kk
def RpPost (ls : List (List UInt8)) (rb : Nat) (w : World) (e : Ending) (w' : World) : Prop :=
  Below rb w w' ∧ match titlesC ls M.emptyPk with
    | .inl n => Thrown e ∧ w'.cell? ⟨rb, 1, none⟩ = some (.int .i64 n)
    | .inr p => ∃ v, e = .returned v ∧ PkFrom w.heap.size w' { p with files := M.sortF p.files } v
theorem rp_thrown {ls : List (List UInt8)} {rb n : Nat} {w : World} {e : Ending} {w' : World} (h : titlesC ls M.emptyPk = .inl n) (hb : Below rb w w') (ht : Thrown e) (hc : w'.cell? ⟨rb, 1, none⟩ = some (.int .i64 n)) : RpPost ls rb w e w' := by
  refine ⟨hb, ?_⟩; rw [h]; exact ⟨ht, hc⟩
theorem QkAt.new (w : World) : QkAt (w.alloc (.cells #[.string ⟨#[]⟩, .string ⟨#[]⟩, .slice none 0 0, .slice none 0 0, .slice none 0 0] 108)) w.heap.size M.emptyPk := by
  obtain ⟨_, hz, hcl, hfz⟩ := newB w [.string ⟨#[]⟩, .string ⟨#[]⟩, .slice none 0 0, .slice none 0 0, .slice none 0 0] 108 0
  exact ⟨w.heap.size + 1, .slice none 0 0, .slice none 0 0, .slice none 0 0, hcl 0 _ rfl, hcl 1 _ rfl, hcl 2 _ rfl, hcl 3 _ rfl, hcl 4 _ rfl, hfz, Nat.lt_succ_self _, Nat.le_of_eq hz.symm, NeedsIn.nil _ _ _, .inl ⟨rfl, rfl, rfl⟩, World.ownsRow_nil _ _ _ _, fun _ => rfl, fun _ => rfl⟩
theorem quiet_one {P : Program} {f : FuncId} {args : Array Value} {w : World} {n : Nat} {v : Value} (h : Calls P f args (w.drewN n) fun e w' => e = .returned v ∧ w' = w.drewN n) : Calls P f args (w.drewN n) fun e w'' => e = .returned v ∧ ∃ m, w'' = w.drewN m :=
  h.mono fun _ _ ⟨he, hm⟩ => ⟨he, n, hm⟩
theorem set5 (X : World) (b : Nat) (a0 a1 a2 a3 a4 : Value) (h : ∀ j, j < 5 → ∃ u, X.cell? ⟨b, j, none⟩ = some u) :
    let Y := ((((X.setCell ⟨b, 0, none⟩ a0).setCell ⟨b, 1, none⟩ a1).setCell ⟨b, 2, none⟩ a2).setCell ⟨b, 3, none⟩ a3).setCell ⟨b, 4, none⟩ a4
    Y.cell? ⟨b, 0, none⟩ = some a0 ∧ Y.cell? ⟨b, 1, none⟩ = some a1 ∧ Y.cell? ⟨b, 2, none⟩ = some a2 ∧ Y.cell? ⟨b, 3, none⟩ = some a3 ∧ Y.cell? ⟨b, 4, none⟩ = some a4 := by
  obtain ⟨u0, h0⟩ := h 0 (by decide)
  obtain ⟨u1, h1⟩ := h 1 (by decide)
  obtain ⟨u2, h2⟩ := h 2 (by decide)
  obtain ⟨u3, h3⟩ := h 3 (by decide)
  obtain ⟨u4, h4⟩ := h 4 (by decide)
  refine ⟨?_, ?_, ?_, ?_, ?_⟩
  · rw [setC_off _ _ _ _ _ (by decide), setC_off _ _ _ _ _ (by decide), setC_off _ _ _ _ _ (by decide), setC_off _ _ _ _ _ (by decide), World.cell?_setCell_same _ _ _ h0]
  · rw [setC_off _ _ _ _ _ (by decide), setC_off _ _ _ _ _ (by decide), setC_off _ _ _ _ _ (by decide), World.cell?_setCell_same _ _ _ (by rw [setC_off _ _ _ _ _ (by decide)]; exact h1)]
  · rw [setC_off _ _ _ _ _ (by decide), setC_off _ _ _ _ _ (by decide), World.cell?_setCell_same _ _ _ (by rw [setC_off _ _ _ _ _ (by decide), setC_off _ _ _ _ _ (by decide)]; exact h2)]
  · rw [setC_off _ _ _ _ _ (by decide), World.cell?_setCell_same _ _ _ (by rw [setC_off _ _ _ _ _ (by decide), setC_off _ _ _ _ _ (by decide), setC_off _ _ _ _ _ (by decide)]; exact h3)]
  · rw [World.cell?_setCell_same _ _ _ (by rw [setC_off _ _ _ _ _ (by decide), setC_off _ _ _ _ _ (by decide), setC_off _ _ _ _ _ (by decide), setC_off _ _ _ _ _ (by decide)]; exact h4)]
structure RS (w W : World) (rb lb : Nat) (ps : List ByteArray) (k : Nat) (p : M.Pk) : Prop where
  r : RAt W rb lb ps k
  q : QkAt W (w.heap.size + 1) p
  b : Below rb w W
  v : ∀ j, j < 5 → ∃ u, W.cell? ⟨w.heap.size, j, none⟩ = some u
  vz : ∀ o, W.frozen? ⟨w.heap.size, o, none⟩ = false
  lw : lb < w.heap.size
  g : 1 < rb
  m : MaxIs w
theorem RS.max {w W : World} {rb lb k : Nat} {ps : List ByteArray} {p : M.Pk} (h : RS w W rb lb ps k p) : MaxIs W := by
  obtain ⟨m, hm⟩ := h.m
  exact ⟨m, (h.b.cell (p := ⟨1, 0, none⟩) h.g).trans hm⟩
theorem RS.step {w W W' : World} {rb lb k j : Nat} {ps : List ByteArray} {p q : M.Pk} (h : RS w W rb lb ps k p) (h1 : RAt W' rb lb ps j) (h2 : QkAt W' (w.heap.size + 1) q) (h3 : Below rb W W') (h4 : KeepB W W' rb (w.heap.size + 1)) : RS w W' rb lb ps j q := by
  have hne : w.heap.size ≠ rb := by have := h.r.lt; have := h.lw; omega
  refine ⟨h1, h2, h.b.trans h3, fun i hi => ?_, fun o => ?_, h.lw, h.g, h.m⟩
  · obtain ⟨u, hu⟩ := h.v i hi
    exact ⟨u, (h4 _ i (Nat.lt_succ_self _) hne).1.trans hu⟩
  · exact (h4 _ o (Nat.lt_succ_self _) hne).2.trans (h.vz o)
def RsPost (o : Option (Bool × Nat × M.Pk)) (w : World) (rb lb : Nat) (ps : List ByteArray) (k : Nat) (e : Ending) (w' : World) : Prop := match o with
  | none => Thrown e ∧ Below rb w w' ∧ w'.cell? ⟨rb, 1, none⟩ = some (.int .i64 ((k : Int) + 1))
  | some (b, j, q) => e = .returned (.bool b) ∧ RS w w' rb lb ps j q
theorem rs_take {w W : World} {rb lb k : Nat} {ps : List ByteArray} {p : M.Pk} (h : RS w W rb lb ps k p) (T : ByteArray) (f : FuncId) (st : List UInt8 → Option M.Pk) (hl : ps.length ≤ 100000) (hsz : ∀ q ∈ ps, q.size ≤ 100000)
    (he : ∀ args w, (callFunc f args).run Tryz.prog w = .ok (.enter f args) w)
    (cF : ∀ (A : ByteArray) wx, A.size ≤ 100000 → QkAt wx (w.heap.size + 1) p → MaxIs wx → Calls Tryz.prog f #[.string A, .pointer (some ⟨w.heap.size + 1, 0, none⟩)] wx (ClPost (st A.data.toList) (w.heap.size + 1) wx)) :
    Calls Tryz.prog 127 #[.pointer (some ⟨rb, 0, none⟩), .string T, .func (.func f) #[] #[.pointer (some ⟨w.heap.size + 1, 0, none⟩)]] W (RsPost (takeS T.data.toList st (ps.map fun q => q.data.toList) k p) w rb lb ps k) := by
  have hlw := h.lw
  refine (take_any T f st W rb lb (w.heap.size + 1) ps k p h.r h.q hl (by omega) hsz he (fun A wx hA hb => cF A wx hA (h.q.below hb) (h.max.below hb))).mono fun e w' ht => ?_
  unfold TakePost at ht
  unfold RsPost
  have hrb : rb < w.heap.size + 1 := by have := h.r.lt; omega
  cases ho : takeS T.data.toList st (ps.map fun q => q.data.toList) k p with
  | none =>
    rw [ho] at ht
    exact ⟨ht.1, h.b.trans (ht.2.mono (Nat.le_of_lt hrb)), (ht.2.cell (p := ⟨rb, 1, none⟩) hrb).trans h.r.c1⟩
  | some x =>
    obtain ⟨b, j, q⟩ := x
    rw [ho] at ht
    obtain ⟨h1, h2, h3, h4, h5⟩ := ht
    exact ⟨h1, h.step h2 h3 h4 h5⟩
theorem RS.below {w W W' : World} {rb lb k : Nat} {ps : List ByteArray} {p : M.Pk} (h : RS w W rb lb ps k p) (hb : Below W.heap.size W W') : RS w W' rb lb ps k p := by
  have h1 := h.q.lt
  have h2 := h.lw
  have h3 := h.r.lt
  exact h.step (h.r.below (hb.mono (Nat.le_of_lt h1)) (by omega)) (h.q.below hb) (hb.mono (by omega)) (KeepB.below (hb.mono (Nat.le_of_lt h1)))
def lineAt (wr : World) (rb : Nat) : Nat := match wr.cell? ⟨rb, 1, none⟩ with
  | some (.int _ n) => n.toNat
  | _ => 0
theorem RS.line {w W : World} {rb lb k : Nat} {ps : List ByteArray} {p : M.Pk} (h : RS w W rb lb ps k p) : lineAt W rb = k + 1 := by
  unfold lineAt
  rw [h.r.c1]
  show ((k : Int) + 1).toNat = k + 1
  omega
def truth : Value → Nat
  | .bool true => 1
  | _ => 0
theorem QAt.valSort {w w' : World} {pb B r : Nat} {p : M.Pk} {nv bv fv : Value} (h : QAt w pb B p nv bv fv) (hg : w.grownBy w' fv.ownBlock) (hrow : RowIn w' 0 w'.heap.size fv p.files.length (flsCells (M.sortF p.files))) (hr : r < pb) (a b c d e : Value) :
    PkFrom pb (((((w'.setCell ⟨r, 0, none⟩ a).setCell ⟨r, 1, none⟩ b).setCell ⟨r, 2, none⟩ c).setCell ⟨r, 3, none⟩ d).setCell ⟨r, 4, none⟩ e) { p with files := M.sortF p.files } (.agg #[.string ⟨p.name.toArray⟩, .string ⟨p.ver.toArray⟩, nv, bv, fv]) := by
  have hs : (((((w'.setCell ⟨r, 0, none⟩ a).setCell ⟨r, 1, none⟩ b).setCell ⟨r, 2, none⟩ c).setCell ⟨r, 3, none⟩ d).setCell ⟨r, 4, none⟩ e).heap.size = w'.heap.size := by rw [size_set, size_set, size_set, size_set, size_set]
  have kk : ∀ g o, r < g → CellS w' (((((w'.setCell ⟨r, 0, none⟩ a).setCell ⟨r, 1, none⟩ b).setCell ⟨r, 2, none⟩ c).setCell ⟨r, 3, none⟩ d).setCell ⟨r, 4, none⟩ e) g o := fun g o hg => by
    exact ((setS (by omega)).trans ((setS (by omega)).trans ((setS (by omega)).trans ((setS (by omega)).trans (setS (by omega))))))
  have hle := h.le
  have hlt := h.lt
  have hz := hg.size
  have k2 : ∀ g o, g < B → CellS w w' g o := fun g o hgB => blockS (hg.block g (by omega) (fun e => by have := (h.files.lt g e.symm).1; omega))
  refine ⟨nv, bv, fv, rfl, ?_, ?_, ?_⟩
  · rw [hs]; exact (h.needs.keep (fun g o h1 h2 => (kk g o (by omega)).trans (k2 g o h2))).wide (by omega) (by omega)
  · rw [hs]; exact (h.bars.keep (fun g o h1 h2 => (kk g o (by omega)).trans (k2 g o h2))).wide (by omega) (by omega)
  · rw [hs]
    show RowIn _ pb _ fv (M.sortF p.files).length (flsCells (M.sortF p.files))
    rw [sortLen]
    rcases hrow with h1 | ⟨g, cap, rfl, h2, h3, h4, h5⟩
    · exact .inl h1
    · have hgB := (h.files.lt g rfl).1
      exact .inr ⟨g, cap, rfl, h2, by omega, ⟨h4.1, fun e => h4.2 ((kk g 0 (by omega)).2 e)⟩, fun j u hj => (kk g j (by omega)).1.trans (h5 j u hj)⟩
set_option maxRecDepth 100000 in
set_option maxHeartbeats 4000000 in
theorem readPackage_any (w : World) (rb lb : Nat) (ps : List ByteArray) (hR : RAt w rb lb ps 0) (hw : MaxIs w) (hg : 1 < rb) (hl : ps.length ≤ 100000) (hsz : ∀ q ∈ ps, q.size ≤ 100000) :
    Calls Tryz.prog 87 #[.pointer (some ⟨rb, 0, none⟩)] w (RpPost (ps.map fun q => q.data.toList) rb w) := by
  have hmf : ∀ (fn : Fn) (first cap : Array Value) (w : World), (Instr.makeFunc fn first cap).run Tryz.prog w = .ok (.func fn first cap) w := fun _ _ _ _ => rfl
  have cY := must_ok
  have cY0 := must_ok
  have cN := must_no
  have hrl := hR.lt
  have hlw := hR.le
  have hB0 : Below w.heap.size w (w.alloc (.cells #[.string ⟨#[]⟩, .string ⟨#[]⟩, .slice none 0 0, .slice none 0 0, .slice none 0 0] 108)) := (Below.refl _ w).alloc (Nat.le_refl _) _
  have hS0 : RS w ((w.alloc (.cells #[.string ⟨#[]⟩, .string ⟨#[]⟩, .slice none 0 0, .slice none 0 0, .slice none 0 0] 108)).alloc (.cells #[.string ⟨#[]⟩, .string ⟨#[]⟩, .slice none 0 0, .slice none 0 0, .slice none 0 0] 108)) rb lb ps 0 M.emptyPk := by
    obtain ⟨_, hz1, hcl1, hfz1⟩ := newB w [.string ⟨#[]⟩, .string ⟨#[]⟩, .slice none 0 0, .slice none 0 0, .slice none 0 0] 108 0
    have hz1' : (w.alloc (.cells #[.string ⟨#[]⟩, .string ⟨#[]⟩, .slice none 0 0, .slice none 0 0, .slice none 0 0] 108)).heap.size = w.heap.size + 1 := hz1
    have hB1 : Below (w.heap.size + 1) (w.alloc (.cells #[.string ⟨#[]⟩, .string ⟨#[]⟩, .slice none 0 0, .slice none 0 0, .slice none 0 0] 108)) ((w.alloc (.cells #[.string ⟨#[]⟩, .string ⟨#[]⟩, .slice none 0 0, .slice none 0 0, .slice none 0 0] 108)).alloc (.cells #[.string ⟨#[]⟩, .string ⟨#[]⟩, .slice none 0 0, .slice none 0 0, .slice none 0 0] 108)) := (Below.refl _ _).alloc (by omega) _
    have hQ := QkAt.new (w.alloc (.cells #[.string ⟨#[]⟩, .string ⟨#[]⟩, .slice none 0 0, .slice none 0 0, .slice none 0 0] 108))
    rw [hz1'] at hQ
    have hB2 : Below w.heap.size w ((w.alloc (.cells #[.string ⟨#[]⟩, .string ⟨#[]⟩, .slice none 0 0, .slice none 0 0, .slice none 0 0] 108)).alloc (.cells #[.string ⟨#[]⟩, .string ⟨#[]⟩, .slice none 0 0, .slice none 0 0, .slice none 0 0] 108)) := hB0.trans (hB1.mono (by omega))
    refine ⟨hR.below hB2 hlw, hQ, hB2.mono (by omega), fun j hj => ?_, fun o => (hB1.frozen (p := ⟨w.heap.size, o, none⟩) (Nat.lt_succ_self _)).trans (hfz1 o), hlw, hg, hw⟩
    have hc := fun u (hu : [Value.string ⟨#[]⟩, .string ⟨#[]⟩, .slice none 0 0, .slice none 0 0, .slice none 0 0][j]? = some u) => (hB1.cell (p := ⟨w.heap.size, j, none⟩) (Nat.lt_succ_self _)).trans (hcl1 j u hu)
    exact ⟨_, hc _ (List.getElem?_eq_getElem (by simpa using hj))⟩
  have c1 := rs_take hS0 packT 128 (stTitle M.emptyPk) hl hsz (enters_of Tryz.func128 (by kernel_rfl) rfl) (fun A wx hA hq hm => clTitle_any A wx _ _ hq hm hA)
  have HT : Hid _ := title_take (ps.map fun q => q.data.toList) M.emptyPk
  have eT : packT.data.toList = packW := rfl
  rw [eT] at c1
  generalize takeS packW (stTitle M.emptyPk) (ps.map fun q => q.data.toList) 0 M.emptyPk = o1 at c1 HT
  clear hS0 hB0 hR
  go_enter Tryz.func87, Tryz.ntmps87
  go_wp2_with fail
  refine c1.mono ?_
  intro e w1 h1
  clear c1
  cases o1 with
  | none =>
    obtain ⟨rfl, hb, hc⟩ := h1
    go_wp2
    exact ⟨rfl, rp_thrown HT.out hb rfl hc⟩
  | some x =>
    obtain ⟨b1, k1, p1⟩ := x
    obtain ⟨rfl, hS1⟩ := h1
    cases b1 with
    | false =>
      obtain ⟨hk, ht⟩ := HT.out
      subst hk
      go_wp2_with (go_at_call 83; refine (cN _).mono ?_; rintro e w' ⟨rfl, rfl⟩)
      exact ⟨rfl, rp_thrown ht hS1.b rfl hS1.r.c1⟩
    | true =>
      obtain ⟨ht1, hn1, hb1, hf1⟩ := HT.out
      have HT1 : Hid (titlesC (ps.map fun q => q.data.toList) M.emptyPk = needsC ((ps.map fun q => q.data.toList).drop k1) k1 p1) := ht1
      replace cY : ∀ wx, Calls Tryz.prog 83 #[.bool true] wx fun e w' => e = .returned (.tuple #[]) ∧ wx = w' := fun wx => (cY wx).mono fun e w' h => ⟨h.1, h.2.symm⟩
      have c2 := rs_take hS1 needsT 130 (stNeeds p1) hl hsz (enters_of Tryz.func130 (by kernel_rfl) rfl) (fun A wx hA hq hm => clNeeds_any A wx _ _ hq hf1 hm hA)
      have HN : Hid _ := needs_take (ps.map fun q => q.data.toList) k1 p1
      have eN : needsT.data.toList = M.needsW := rfl
      rw [eN] at c2
      generalize takeS M.needsW (stNeeds p1) (ps.map fun q => q.data.toList) k1 p1 = o2 at c2 HN
      clear HT ht1 hn1 hb1 eN eT
      go_wp2_with (go_at_call 83; refine (cY _).mono ?_; rintro e w' ⟨rfl, rfl⟩)
      refine c2.mono ?_
      intro e w2 h2
      clear c2 hS1
      cases o2 with
      | none =>
        obtain ⟨rfl, hb, hc⟩ := h2
        go_wp2
        exact ⟨rfl, rp_thrown (HT1.out.trans HN.out) hb rfl hc⟩
      | some x =>
        obtain ⟨b2, k2, p2⟩ := x
        obtain ⟨rfl, hS2⟩ := h2
        obtain ⟨hn2, hb2, hf2⟩ := HN.out
        have HT2 : Hid (titlesC (ps.map fun q => q.data.toList) M.emptyPk = barsC ((ps.map fun q => q.data.toList).drop k2) k2 p2) := HT1.out.trans hn2
        have hf2' : p2.files = [] := hf2.trans hf1
        have c3 := rs_take hS2 barsT 133 (stBars p2) hl hsz (enters_of Tryz.func133 (by kernel_rfl) rfl) (fun A wx hA hq hm => clBars_any A wx _ _ hq hf2' hm hA)
        have HB : Hid _ := bars_take (ps.map fun q => q.data.toList) k2 p2
        have eB : barsT.data.toList = M.barsW := rfl
        rw [eB] at c3
        generalize takeS M.barsW (stBars p2) (ps.map fun q => q.data.toList) k2 p2 = o3 at c3 HB
        clear HT1 HN hn2 hb2 hf2 hf1 eB
        go_wp2_with fail
        refine c3.mono ?_
        intro e w3 h3
        clear c3 hS2
        cases o3 with
        | none =>
          obtain ⟨rfl, hb, hc⟩ := h3
          go_wp2
          exact ⟨rfl, rp_thrown (HT2.out.trans HB.out) hb rfl hc⟩
        | some x =>
          obtain ⟨b3, k3, p3⟩ := x
          obtain ⟨rfl, hS3⟩ := h3
          obtain ⟨hb3, hf3⟩ := HB.out
          have HT3 : Hid (titlesC (ps.map fun q => q.data.toList) M.emptyPk = filesC ((ps.map fun q => q.data.toList).drop k3) k3 p3) := HT2.out.trans hb3
          have HF3 : Hid (FewF p3) := by
            have e : p3.files = [] := hf3.trans hf2'
            show FewF p3
            unfold FewF
            rw [e]
            simp
          have HZL : Hid (∀ s ∈ (ps.map fun q => q.data.toList), s.length ≤ 100000) := by
            intro s hs
            obtain ⟨q, hq, rfl⟩ := List.mem_map.1 hs
            rw [len_data]
            exact hsz q hq
          clear HT2 HB hb3 hf3 hf2'
          go_wp2_with fail
          go_loopw [4] (fun m wr => ∃ (b : Bool) (k : Nat) (p : M.Pk), m = .bool b ∧ RS w wr rb lb ps k p ∧ Hid (FewF p) ∧ Hid (titlesC (ps.map fun q => q.data.toList) M.emptyPk = filesC ((ps.map fun q => q.data.toList).drop k) k p) ∧
            Hid (b = false → (k < ps.length → filesC ((ps.map fun q => q.data.toList).drop k) k p = .inl (k + 1)) ∧ (ps.length ≤ k → filesC ((ps.map fun q => q.data.toList).drop k) k p = .inr p))) (fun m wr => truth m + 2 * (ps.length + 1 - lineAt wr rb))
          case atStart => exact ⟨true, k3, p3, rfl, hS3, HF3, HT3, fun h => by cases h⟩
          case round =>
            obtain ⟨b, k, p, rfl, hS, HF, HT, HX⟩ := hrel
            cases b with
            | true =>
              have c4 := rs_take hS fileT 136 (stFile p) hl hsz (enters_of Tryz.func136 (by kernel_rfl) rfl) (fun A wx hA hq hm => clFile_any A wx _ _ hq (by have := HF.out.1; omega) HF.out.2 hm hA)
              have HFT : Hid _ := file_take (ps.map fun q => q.data.toList) k p HZL.out HF.out
              have eF : fileT.data.toList = M.fileW := rfl
              rw [eF] at c4
              have hln := hS.line
              generalize takeS M.fileW (stFile p) (ps.map fun q => q.data.toList) k p = o4 at c4 HFT
              clear eF HX
              go_wp2_with fail
              refine c4.mono ?_
              intro e w4 h4
              clear c4
              cases o4 with
              | none =>
                obtain ⟨rfl, hb, hc⟩ := h4
                go_wp2
                exact ⟨rfl, rp_thrown (HT.out.trans HFT.out) hb rfl hc⟩
              | some x =>
                obtain ⟨b4, k4, p4⟩ := x
                obtain ⟨rfl, hS4⟩ := h4
                have hln4 := hS4.line
                cases b4 with
                | true =>
                  obtain ⟨a1, a2, a3, a4⟩ := HFT.out
                  have HA1 : Hid (titlesC (ps.map fun q => q.data.toList) M.emptyPk = filesC ((ps.map fun q => q.data.toList).drop k4) k4 p4) := HT.out.trans a1
                  rw [List.length_map] at a3
                  clear a1 HFT HT
                  go_wp2
                  go_roundw
                  case rel => exact ⟨true, k4, p4, rfl, hS4, a4, HA1, fun h => by cases h⟩
                  case measure => simp [truth]; omega
                | false =>
                  obtain ⟨rfl, rfl, a3, a4⟩ := HFT.out
                  have HA : Hid (false = false → (k4 < ps.length → filesC ((ps.map fun q => q.data.toList).drop k4) k4 p4 = .inl (k4 + 1)) ∧ (ps.length ≤ k4 → filesC ((ps.map fun q => q.data.toList).drop k4) k4 p4 = .inr p4)) := fun _ => by
                    rw [List.length_map] at a3 a4
                    exact ⟨a3, a4⟩
                  clear a3 a4 HFT
                  go_wp2
                  go_roundw
                  case rel => exact ⟨false, k4, p4, rfl, hS4, HF, HT, fun _ => HA.out trivial⟩
                  case measure => simp [truth]; omega
            | false =>
              have HX2 : Hid _ := HX.out rfl
              have q0 := hS.r.c0
              have q1 := hS.r.c1
              have hkl := hS.r.kl
              clear HX
              by_cases hk : k < ps.length
              · have hd : decide ((ps.length : Int) < (k : Int) + 1) = false := by simp; omega
                have hBd : Below rb w wr.drew := hS.b.trans ((below_same wr 1).mono (by have := hS.r.le; omega))
                have HE : Hid (titlesC (ps.map fun q => q.data.toList) M.emptyPk = .inl (k + 1)) := HT.out.trans (HX2.out.1 hk)
                have hc : wr.drew.cell? ⟨rb, 1, none⟩ = some (.int .i64 ((k : Int) + 1)) := q1
                have HC : Hid (wr.drew.cell? ⟨rb, 1, none⟩ = some (.int .i64 ((k : Int) + 1))) := hc
                clear hc
                go_wp2_with fail
                go_region_with (go_at_call 83; refine (cN _).mono ?_; rintro e w' ⟨rfl, rfl⟩; refine Spare.use wr ⟨rfl, rp_thrown HE.out hBd rfl HC.out⟩ ?_)
                all_goals trivial
              · have hd : decide ((ps.length : Int) < (k : Int) + 1) = true := by simp; omega
                have HE : Hid (titlesC (ps.map fun q => q.data.toList) M.emptyPk = .inr p) := HT.out.trans (HX2.out.2 (by omega))
                go_wp2_with fail
                go_quiet ((go_at_call 83; go_must (exact quiet_one (cY0 _))))
                have hSd := hS.below (below_same wr nq)
                generalize wr.drewN nq = W9 at hSd ⊢
                have hmv := hSd.v
                have hvz := hSd.vz
                have HSd : Hid (RS w W9 rb lb ps k p) := hSd
                obtain ⟨B, nv, bv, fv, hQ⟩ := hSd.q
                have cS := sort_lib p.files fv B W9 hQ.files (by have := HF.out.1; omega)
                have g0 := hQ.c0
                have g1 := hQ.c1
                have g2 := hQ.c2
                have g3 := hQ.c3
                have g4 := hQ.c4
                obtain ⟨an, cn, en⟩ := hQ.needs.form
                obtain ⟨ab, cb, eb⟩ := hQ.bars.form
                obtain ⟨af, cf, ef⟩ := own_form hQ.files
                subst en eb ef
                have HQ : Hid _ := hQ
                clear hQ hSd q0 q1
                go_wp2_with fail
                refine cS.mono ?_
                rintro e w9 ⟨rfl, hgr, hrow⟩
                have hBl := HQ.out.lt
                have hBe := HQ.out.le
                have kp : ∀ g o, g < B → w9.cell? ⟨g, o, none⟩ = W9.cell? ⟨g, o, none⟩ ∧ w9.frozen? ⟨g, o, none⟩ = W9.frozen? ⟨g, o, none⟩ := fun g o hgB => grown_keep hgr g (by omega) (fun e => by have := (HQ.out.files.lt g e.symm).1; omega) o
                replace g0 := (kp _ 0 hBl).1.trans g0
                replace g1 := (kp _ 1 hBl).1.trans g1
                replace g2 := (kp _ 2 hBl).1.trans g2
                replace g3 := (kp _ 3 hBl).1.trans g3
                replace g4 := (kp _ 4 hBl).1.trans g4
                have hv9 : ∀ j, j < 5 → ∃ u, w9.cell? ⟨w.heap.size, j, none⟩ = some u := fun j hj => by
                  obtain ⟨u, hu⟩ := hmv j hj
                  exact ⟨u, (kp _ j (by omega)).1.trans hu⟩
                have hz9 : ∀ o, w9.frozen? ⟨w.heap.size, o, none⟩ = false := fun o => (kp _ o (by omega)).2.trans (hvz o)
                have HV : Hid _ := hv9
                obtain ⟨v0, e0⟩ := hv9 0 (by decide)
                obtain ⟨v1, e1⟩ := hv9 1 (by decide)
                obtain ⟨v2, e2⟩ := hv9 2 (by decide)
                obtain ⟨v3, e3⟩ := hv9 3 (by decide)
                obtain ⟨v4, e4⟩ := hv9 4 (by decide)
                have hB9 : Below rb w w9 := HSd.out.b.grown hgr (by have := HSd.out.r.lt; have := HSd.out.r.le; omega) (fun j hj => by have := (HQ.out.files.lt j hj).1; have := HSd.out.r.lt; omega)
                clear kp hmv hvz hv9 cS
                go_wp2
                obtain ⟨z0, z1, z2, z3, z4⟩ := set5 w9 w.heap.size (.string ⟨p.name.toArray⟩) (.string ⟨p.ver.toArray⟩) (.slice an p.needs.length cn) (.slice ab p.bars.length cb) (.slice af p.files.length cf) HV.out
                refine bodyPost_ret (v := .agg #[.string ⟨p.name.toArray⟩, .string ⟨p.ver.toArray⟩, .slice an p.needs.length cn, .slice ab p.bars.length cb, .slice af p.files.length cf]) (by simp [results, Tryz.results87, go_sem, z0, z1, z2, z3, z4]) rfl ?_
                have hle : rb ≤ w.heap.size := by omega
                refine ⟨((((hB9.setCell hle _).setCell hle _).setCell hle _).setCell hle _).setCell hle _, ?_⟩
                rw [HE.out]
                exact ⟨_, rfl, (HQ.out.valSort hgr hrow (Nat.lt_succ_self _) _ _ _ _ _).lower (Nat.le_succ _)⟩
end Go.Proofs.YtgnfknjopafngaaGreatDoor
namespace Go.Proofs.YtgnfknjopafngaaGreatDoor
open Go.RowKit Go.Extern.Stop Go.Stop Go.Extern
def entry (fn : Func) : Array Value → Sem Value := (Extern.find fn).getD fun _ => pure (.bool false)
theorem callE {P : Program} {f : FuncId} {fn : Func} (hf : P.funcs[f]? = some fn) (hname : (fn.name == "runtime.NumGoroutine") = false)
    (hb : fn.body.isNone = true) (hn : Extern.findNext fn = none) (hs : (Extern.find fn).isSome = true) (args : Array Value) (w : World) :
    (callFunc f args).run P w = ((entry fn args).run P w).andThen fun v w' => .ok (.value v) w' := by
  obtain ⟨e, he⟩ := Option.isSome_iff_exists.mp hs
  have : entry fn = e := by unfold entry; rw [he]; rfl
  rw [this]
  exact run_callFunc_extern hf hname hb hn he args w
theorem fTypeOf (v : Value) (w : World) : (entry Tryz.f99 #[.iface 115 v]).run Tryz.prog w = .ok (.iface 221 (.agg #[.pointer (some ⟨4, 115, none⟩)])) w := by kernel_rfl
theorem fComparable (w : World) : (entry Tryz.f333 #[.agg #[.pointer (some ⟨4, 115, none⟩)]]).run Tryz.prog w = .ok (.bool true) w := by kernel_rfl
theorem fMethodComparable (v : Value) (w : World) : (Go.method 481 221 v "Comparable").run Tryz.prog w = .ok (333, v) w := by kernel_rfl
theorem fComp : (Tryz.prog.info? 115).map (·.comparable) = some true := by kernel_rfl
theorem noIsE (v : Value) (xT : TypeId) (w : World) : (Instr.typeAssert (.iface 115 v) xT 233 true).run Tryz.prog w = .ok (.tuple #[.nilIface, .bool false]) w := run_typeAssert_lacksB Tryz.underlying233 (by kernel_rfl) (by kernel_rfl) v xT w
theorem noUnwrapE (v : Value) (xT : TypeId) (w : World) : (Instr.typeAssert (.iface 115 v) xT 228 true).run Tryz.prog w = .ok (.tuple #[.nilIface, .bool false]) w := run_typeAssert_lacksB Tryz.underlying228 (by kernel_rfl) (by kernel_rfl) v xT w
theorem noUnwrapsE (v : Value) (xT : TypeId) (w : World) : (Instr.typeAssert (.iface 115 v) xT 230 true).run Tryz.prog w = .ok (.tuple #[.nilIface, .bool false]) w := run_typeAssert_lacksB Tryz.underlying230 (by kernel_rfl) (by kernel_rfl) v xT w
theorem noIsF (v : Value) (xT : TypeId) (w : World) : (Instr.typeAssert (.iface 112 v) xT 233 true).run Tryz.prog w = .ok (.tuple #[.nilIface, .bool false]) w := run_typeAssert_lacksB Tryz.underlying233 (by kernel_rfl) (by kernel_rfl) v xT w
theorem hasUnwrapF (v : Value) (xT : TypeId) (w : World) : (Instr.typeAssert (.iface 112 v) xT 228 true).run Tryz.prog w = .ok (.tuple #[.iface 112 v, .bool true]) w := run_typeAssert_hasB Tryz.underlying228 (by kernel_rfl) v xT w
theorem methodUnwrapF (v : Value) (w : World) : (Go.method 481 112 v "Unwrap").run Tryz.prog w = .ok (325, v) w := by kernel_rfl
set_option maxRecDepth 100000 in
set_option maxHeartbeats 4000000 in
theorem is_kind (pb : Nat) (a k : Nat) (w : World) (hc : w.cell? ⟨pb, 0, none⟩ = some (.int .i64 a)) :
    Calls Tryz.prog 58 #[.iface 112 (.pointer (some ⟨pb, 0, none⟩)), .iface 115 (.int .i64 k)] w fun e w' => e = .returned (.bool (decide ((a : Int) = k))) ∧ w' = w := by
  have h8 := @callE Tryz.prog 99 _ Tryz.func99 (by kernel_rfl) (by kernel_rfl) (by kernel_rfl) (by kernel_rfl)
  have h32 := @callE Tryz.prog 333 _ Tryz.func333 (by kernel_rfl) (by kernel_rfl) (by kernel_rfl) (by kernel_rfl)
  have tT := fTypeOf
  have cT := fComparable
  have mR := fMethodComparable
  have nE := noIsE
  have uE := noUnwrapE
  have vE := noUnwrapsE
  have nF := noIsF
  have uF := hasUnwrapF
  have mU := methodUnwrapF
  have hty := run_eql_iface_types (P := Tryz.prog) 112 115 (.pointer (some ⟨pb, 0, none⟩)) (.int .i64 k) Tryz.underlying67 (by decide) w
  have heq := Go.Lib.run_eql_iface_int (P := Tryz.prog) (k := .i64) w (a : Int) (k : Int) Tryz.underlying67 fComp Tryz.underlying115
  by_cases hk : (a : Int) = k
  · rw [show ((a : Int) == (k : Int)) = true by simpa using hk] at heq
    have HD : Hid (decide ((a : Int) = k) = true) := by show _ = _; simpa using hk
    clear hk
    go_enter Tryz.func58, Tryz.ntmps58
    go_wp2
    refine wp_loop_rounds 2 ?_
    rw [rounds_succ]
    go_wp2
    rw [rounds_succ]
    go_wp2
    go_ret
    exact ⟨by rw [HD.out]; rfl, rfl⟩
  · rw [show ((a : Int) == (k : Int)) = false by simpa using hk] at heq
    have HD : Hid (decide ((a : Int) = k) = false) := by show _ = _; simpa using hk
    clear hk
    go_enter Tryz.func58, Tryz.ntmps58
    go_wp2
    refine wp_loop_rounds 2 ?_
    rw [rounds_succ]
    go_wp2
    rw [rounds_succ]
    go_wp2
    go_ret
    exact ⟨by rw [HD.out]; rfl, rfl⟩
end Go.Proofs.YtgnfknjopafngaaGreatDoor
namespace Go.Proofs.YtgnfknjopafngaaGreatDoor
open Go.RowKit Go.Extern.Stop Go.Stop Go.Extern
theorem gValueOfPP (t : Addr) (w : World) : (entry Tryz.f95 #[.iface 114 (.pointer (some t))]).run Tryz.prog w
    = .ok (.agg #[.pointer (some ⟨4, 114, none⟩), .pointer (some ⟨w.heap.size, 0, none⟩), .int .u64 150]) (w.alloc (.cells #[.pointer (some t)] 114)) := by kernel_rfl
theorem gValueOfP (e : Addr) (w : World) : (entry Tryz.f95 #[.iface 112 (.pointer (some e))]).run Tryz.prog w
    = .ok (.agg #[.pointer (some ⟨4, 112, none⟩), .pointer (some ⟨w.heap.size, 0, none⟩), .int .u64 150]) (w.alloc (.cells #[.pointer (some e)] 112)) := by kernel_rfl
theorem gType (a : Addr) (w : World) : (entry Tryz.f96 #[.agg #[.pointer (some ⟨4, 114, none⟩), .pointer (some a), .int .u64 150]]).run Tryz.prog w
    = .ok (.iface 221 (.agg #[.pointer (some ⟨4, 114, none⟩)])) w := by kernel_rfl
theorem gMethodKind (h : Value) (w : World) : (Go.method 481 221 (.agg #[h]) "Kind").run Tryz.prog w = .ok (316, h) w := by kernel_rfl
theorem gKindPP (w : World) : (entry Tryz.f316 #[.pointer (some ⟨4, 114, none⟩)]).run Tryz.prog w = .ok (.int .u8 22) w := by kernel_rfl
theorem gKindP (w : World) : (entry Tryz.f316 #[.pointer (some ⟨4, 112, none⟩)]).run Tryz.prog w = .ok (.int .u8 22) w := by kernel_rfl
theorem gMethodElem (h : Value) (w : World) : (Go.method 481 221 (.agg #[h]) "Elem").run Tryz.prog w = .ok (334, .agg #[h]) w := by kernel_rfl
theorem gMethodImplements (h : Value) (w : World) : (Go.method 481 221 (.agg #[h]) "Implements").run Tryz.prog w = .ok (335, .agg #[h]) w := by kernel_rfl
theorem gMethodAssignableTo (h : Value) (w : World) : (Go.method 481 221 (.agg #[h]) "AssignableTo").run Tryz.prog w = .ok (332, .agg #[h]) w := by kernel_rfl
theorem gElem (w : World) : (entry Tryz.f334 #[.agg #[.pointer (some ⟨4, 114, none⟩)]]).run Tryz.prog w = .ok (.iface 221 (.agg #[.pointer (some ⟨4, 112, none⟩)])) w := by kernel_rfl
theorem gImplements (w : World) : (entry Tryz.f335 #[.agg #[.pointer (some ⟨4, 112, none⟩)], .iface 221 (.agg #[.pointer (some ⟨4, 67, none⟩)])]).run Tryz.prog w = .ok (.bool true) w := by kernel_rfl
theorem gTypeOf (v : Value) (w : World) : (entry Tryz.f99 #[.iface 112 v]).run Tryz.prog w = .ok (.iface 221 (.agg #[.pointer (some ⟨4, 112, none⟩)])) w := by kernel_rfl
theorem gAssignable (w : World) : (entry Tryz.f332 #[.agg #[.pointer (some ⟨4, 112, none⟩)], .iface 221 (.agg #[.pointer (some ⟨4, 112, none⟩)])]).run Tryz.prog w = .ok (.bool true) w := by kernel_rfl
theorem gPartsPP (a : Addr) (w : World) : (ReflectliteValue.parts (.agg #[.pointer (some ⟨4, 114, none⟩), .pointer (some a), .int .u64 150])).run Tryz.prog w = .ok (some (114, a, 150)) w := by kernel_rfl
theorem gElemOf (w : World) : (Rtype.elem? 114).run Tryz.prog w = .ok (some 112) w := by kernel_rfl
theorem gMk (p : Addr) (w : World) : (ReflectliteValue.mk 112 p ReflectliteValue.flagAddr).run Tryz.prog w = .ok (.agg #[.pointer (some ⟨4, 112, none⟩), .pointer (some p), .int .u64 406]) w := by kernel_rfl
theorem eIsNil : entry Tryz.f97 = ReflectliteValue.method (ReflectliteValue.valueError "reflectlite.Value.IsNil" 0) ReflectliteValue.isNil := by kernel_rfl
theorem eElemV : entry Tryz.f145 = ReflectliteValue.method (ReflectliteValue.valueError "reflectlite.Value.Elem" 0) ReflectliteValue.elem := by kernel_rfl
theorem gIsNil (a p : Addr) (W : World) (ha : W.cell? a = some (.pointer (some p))) :
    (entry Tryz.f97 #[.agg #[.pointer (some ⟨4, 114, none⟩), .pointer (some a), .int .u64 150]]).run Tryz.prog W = .ok (.bool false) W := by
  rw [eIsNil]
  rw [Go.Lib.rl_method]
  simp only [Sem.run_bind, gPartsPP, Result.andThen]
  simp [ReflectliteValue.isNil, loadVar, isAgg, underlying, Tryz.underlying114, ha, Result.andThen]
theorem gElemV (a p : Addr) (W : World) (ha : W.cell? a = some (.pointer (some p))) :
    (entry Tryz.f145 #[.agg #[.pointer (some ⟨4, 114, none⟩), .pointer (some a), .int .u64 150]]).run Tryz.prog W
      = .ok (.agg #[.pointer (some ⟨4, 112, none⟩), .pointer (some p), .int .u64 406]) W := by
  rw [eElemV]
  rw [Go.Lib.rl_method]
  simp only [Sem.run_bind, gPartsPP, Result.andThen]
  simp [ReflectliteValue.elem, loadVar, isAgg, underlying, Tryz.underlying114, ha, Result.andThen, gElemOf, gMk]
theorem gSetRun (ta b : Addr) (W : World) :
    (entry Tryz.f146 #[.agg #[.pointer (some ⟨4, 112, none⟩), .pointer (some ta), .int .u64 406], .agg #[.pointer (some ⟨4, 112, none⟩), .pointer (some b), .int .u64 150]]).run Tryz.prog W
      = (do let v ← loadVar 112 b; storeVar 112 ta v; pure (.tuple #[]) : Sem Value).run Tryz.prog W := by kernel_rfl
theorem gSet (ta b e : Addr) (old : Value) (W : World) (hb : W.cell? b = some (.pointer (some e))) (ht : W.cell? ta = some old) (hf : W.frozen? ta = false) :
    (entry Tryz.f146 #[.agg #[.pointer (some ⟨4, 112, none⟩), .pointer (some ta), .int .u64 406], .agg #[.pointer (some ⟨4, 112, none⟩), .pointer (some b), .int .u64 150]]).run Tryz.prog W
      = .ok (.tuple #[]) (W.setCell ta (.pointer (some e))) := by
  rw [gSetRun]
  simp [loadVar, isAgg, underlying, Tryz.underlying112, hb, Result.andThen, storeVar, Value.cells, storeCells, Addr.add]
  rw [run_store Tryz.prog W ta _ _ (by rfl)]
  simp [ht, hf]
end Go.Proofs.YtgnfknjopafngaaGreatDoor
