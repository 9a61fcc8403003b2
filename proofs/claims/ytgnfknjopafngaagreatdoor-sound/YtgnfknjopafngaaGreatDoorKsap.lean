import Derived.Test.YtgnfknjopafngaaGreatDoorKsao
import Derived.Test.YtgnfknjopafngaaGreatDoorKsw
import Derived.Test.YtgnfknjopafngaaGreatDoorKss
import Derived.Test.YtgnfknjopafngaaGreatDoorKsl
import Derived.Deep.Strs
import Derived.SizedLaws
import Derived.Carry
import Derived.Test.YtgnfknjopafngaaGreatDoorKsm
import Derived.ProofKit
import Derived.OpenShut
import Derived.Lay
import Derived.LaidOnce
import Derived.LaidLaws
import Derived.LaidHandle
import Derived.Shelf.Vars
import Derived.ChangeVars
import Derived.SevenTiedAt
import Derived.Test.YtgnfknjopafngaaGreatDoorKsr
import Derived.Test.YtgnfknjopafngaaGreatDoorCards
import Derived.Test.YtgnfknjopafngaaGreatDoorTie
namespace Go.Proofs.YtgnfknjopafngaaGreatDoor
open Go.RowKit Go.Maps
set_option maxRecDepth 100000 in
set_option maxHeartbeats 8000000 in
theorem anchored_any (w : World) (hR : Ready w) : Calls Tryz.prog 18 #[] w fun e w' => e = .returned (.bool true) ∧ Below w.heap.size w w' := by
  have cN := sess_new 20 w hR
  rw [show sectorsN 20 = 20 by decide] at cN
  clear hR
  go_enter Tryz.func18, Tryz.ntmps18
  go_wp2_with fail
  refine cN.mono ?_
  rintro e w1 ⟨x, d, s, k, b, hv, sv, rfl, hS, hF, hB1⟩
  clear cN
  have hBA : Below w1.heap.size w1 (w1.alloc (.cells okC 23)) := (Below.refl _ w1).alloc (Nat.le_refl _) _
  have hBC : Below (w1.alloc (.cells okC 23)).heap.size (w1.alloc (.cells okC 23)) ((w1.alloc (.cells okC 23)).alloc (.cells #[.string oneT] 9)) := (Below.refl _ _).alloc (Nat.le_refl _) _
  have hSC := (hS.below hBA).below hBC
  have hst := strs_new (w1.alloc (.cells okC 23)) oneT
  have cI := sess_install hSC (.slice (some ⟨(w1.alloc (.cells okC 23)).heap.size, 0, none⟩) 1 1) [oneT] hst.txts (by decide) (by intro t ht; simp at ht; subst ht; decide)
  rw [show M.installedS [] ([oneT].map fun t => t.data.toList) (24 * (((20 : Nat) : Int) - 8)) = .inr [onePk] from one_inst] at cI
  replace cI : Calls Tryz.prog 21 #[.pointer (some ⟨x, 0, none⟩), .slice (some ⟨(w1.alloc (.cells okC 23)).heap.size, 0, none⟩) 1 1] ((w1.alloc (.cells okC 23)).alloc (.cells #[.string oneT] 9)) fun e w' => e = .returned okV ∧ ∃ nb, SessAt w' x d (.pointer (some ⟨s, 0, none⟩)) ∧ StoreAt w' s k nb ∧ SetIn w' nb [onePk] ∧ Below w.heap.size w w' := cI.mono fun e w' h => by
    obtain ⟨rfl, nb, lv', t1, t2, t3, t4, t5, t6, t7, t8⟩ := h
    exact ⟨rfl, nb, t2, t3, t5, Below.chg (bt hB1 (bt hBA hBC)) t7 (fun j hj => hF j (.inr hj)) (Nat.le_refl _)⟩
  rw [World.size_alloc] at cI
  unfold oneT at cI
  clear hst hSC hBC hBA hS hF
  go_wp2_with fail
  refine cI.mono ?_
  rintro e w2 ⟨rfl, nb, t1, t2, t3, hB2⟩
  clear cI
  have hBD : Below w2.heap.size w2 (w2.alloc (.cells okC 23)) := (Below.refl _ w2).alloc (Nat.le_refl _) _
  have cP := xPackages_any x d s k nb [onePk] (w2.alloc (.cells okC 23)) ((hBD.block x (Array.getElem?_eq_some_iff.1 t1).1).trans t1) ((hBD.block s (Array.getElem?_eq_some_iff.1 t2).1).trans t2) (t3.below hBD) (by decide) (fun p hp => by rw [List.mem_singleton.1 hp]; exact readP (s := oneT.data.toList) (by rfl)) (by decide)
  rw [one_texts] at cP
  have hr : (w2.alloc (.cells okC 23)).heap[w2.heap.size]? = some (.cells okC 23 (0, 0)) := heap_alloc_new w2 _
  have HR : Hid ((w2.alloc (.cells okC 23)).heap[w2.heap.size]? = some (.cells okC 23 (0, 0))) := hr
  have HBD : Hid (Below w2.heap.size w2 (w2.alloc (.cells okC 23))) := hBD
  clear t1 t2 t3 hr hBD
  go_wp2_with fail
  refine cP.mono ?_
  rintro e w3 ⟨a, c, rfl, ho, hB3⟩
  clear cP
  have hr3 : w3.heap[w2.heap.size]? = some (.cells okC 23 (0, 0)) := (hB3.block _ (by simp)).trans HR.out
  obtain ⟨z0, z1, z2, z3, zf⟩ := okC_cell hr3
  obtain ⟨g, rfl, hg, hcap, hc⟩ := ((RowIn.own ho).wide (Nat.zero_le _) (Nat.le_refl _)).cellAt (by decide)
  have q0 : w3.cell? ⟨g, 0, none⟩ = some (.string oneT) := hc 0 _ rfl
  unfold oneT at q0
  have HB4 : Hid (Below w.heap.size w w3) := bt hB2 (bt HBD.out hB3)
  clear ho hc hr3 hB3
  go_wp2
  go_ret
  exact ⟨rfl, HB4.out⟩
end Go.Proofs.YtgnfknjopafngaaGreatDoor
namespace Go.Proofs.YtgnfknjopafngaaGreatDoor
open Go.RowKit Go.Maps
namespace M
def Stays (D : Dk) : Prop := D.dead = false ∧ D.left = -1
theorem Stays.left' {D : Dk} (h : Stays D) : (if 0 < D.left then D.left - 1 else D.left) = -1 := by rw [h.2]; decide
theorem Stays.write {D : Dk} (h : Stays D) (n : Nat) (x : List UInt8) : Stays (D.write n x) := by
  unfold Dk.write
  rw [if_neg (by rw [h.1, h.2]; decide)]
  exact ⟨rfl, h.left'⟩
theorem Stays.sync {D : Dk} (h : Stays D) : Stays D.sync := by
  unfold Dk.sync
  rw [if_neg (by rw [h.1, h.2]; decide)]
  exact ⟨rfl, h.left'⟩
theorem Stays.body {D : Dk} (h : Stays D) (n half : Nat) (t : List UInt8) : ∀ k, Stays (D.body n half t k)
  | 0 => h
  | k + 1 => (Stays.body h n half t k).write _ _
theorem Stays.save {D : Dk} (h : Stays D) (n half : Nat) (t : List UInt8) : Stays (D.save n half t) := (((h.body n half t _).sync).write _ _).sync
end M
def NoStr (F : Nat → Prop) (w : World) : Prop := ∀ k, F k → ∀ s, w.cell? ⟨k, 0, none⟩ ≠ some (.string s)
theorem strs_chg {F : Nat → Prop} {w w' : World} {v : Value} {l : List ByteArray} (h : StrsIn w v l) (hc : Chg F w w') (hF : NoStr F w) : StrsIn w' v l := by
  refine (RowIn.chg h hc (fun e => by simpa using e) (fun g hg _ hne f => ?_) (Nat.le_refl _)).wide (Nat.le_refl _) hc.size
  cases l with
  | nil => exact hne rfl
  | cons c l => exact hF g f _ (hg (.string c) rfl)
theorem SessIs.noStr {W : World} {x d s k b half n : Nat} {hv sv lv : Value} {D : M.Dk} {l : List M.Pk} (h : SessIs W x d s k b half n hv sv lv D l) : NoStr (xFoot x d s k hv sv lv) W := fun j hj => by
  rcases (h.noText j hj).2.1 with ⟨c, f, e⟩ | e
  · exfalso
    rcases hj with rfl | rfl | rfl | hj
    · exact ty_ne e h.sess (by decide) rfl
    · exact ty_ne e h.store (by decide) rfl
    · exact ty_ne e h.known (by decide) rfl
    · exact h.disk.off e (by decide) (by decide) (by decide) hj
  · exact e
def XAt (W : World) (B x n : Nat) (l : List M.Pk) : Prop := ∃ d s k b half hv sv lv D, SessIs W x d s k b half n hv sv lv D l ∧ M.Stays D ∧ ∀ j, xFoot x d s k hv sv lv j → B ≤ j
theorem XAt.below {W W' : World} {B x n : Nat} {l : List M.Pk} (h : XAt W B x n l) (hb : Below W.heap.size W W') : XAt W' B x n l := by
  obtain ⟨d, s, k, b, half, hv, sv, lv, D, h1, h2, h3⟩ := h
  exact ⟨d, s, k, b, half, hv, sv, lv, D, h1.below hb, h2, h3⟩
theorem XAt.ready {W : World} {B x n : Nat} {l : List M.Pk} (h : XAt W B x n l) : Ready W := by
  obtain ⟨d, s, k, b, half, hv, sv, lv, D, h1, _⟩ := h
  exact h1.ready
structure Over (B : Nat) (w w' : World) : Prop where
  low : Below B w w'
  strs : ∀ v l, StrsIn w v l → StrsIn w' v l
  flt : ∀ (j : Nat) (c : Array Value) (f : Nat × Nat), w.heap[j]? = some (.cells c 23 f) → w'.heap[j]? = some (.cells c 23 f)
theorem Over.of {B : Nat} {w w' : World} (hB : B ≤ w.heap.size) (h : Below w.heap.size w w') : Over B w w' := ⟨h.mono hB, fun _ _ k => k.below h, fun j _ _ e => (h.block j (Array.getElem?_eq_some_iff.1 e).1).trans e⟩
theorem Over.trans {B : Nat} {a b c : World} (h : Over B a b) (k : Over B b c) : Over B a c := ⟨h.low.trans k.low, fun v l e => k.strs v l (h.strs v l e), fun j x f e => k.flt j x f (h.flt j x f e)⟩
theorem x_new (n : Int) (w : World) (hR : Ready w) : Calls Tryz.prog 20 #[.int .i64 n] w fun e w' => ∃ x, e = .returned (.tuple #[.pointer (some ⟨x, 0, none⟩), okV]) ∧ XAt w' w.heap.size x (sectorsN n) [] ∧ Below w.heap.size w w' := by
  refine (sess_new n w hR).mono ?_
  rintro e w' ⟨x, d, s, k, b, hv, sv, rfl, h1, h2, h3⟩
  exact ⟨x, rfl, ⟨d, s, k, b, 0, hv, sv, _, _, h1, ⟨rfl, rfl⟩, h2⟩, h3⟩
theorem SessIs.turned {w w' : World} {B x d s k b half n : Nat} {hv sv lv : Value} {D : M.Dk} {l all : List M.Pk} (h : SessIs w x d s k b half n hv sv lv D l) (hs : M.Stays D) (hf : ∀ j, xFoot x d s k hv sv lv j → B ≤ j) (hB : B ≤ w.heap.size) (ht : M.Tog all) (hr : (M.sizeS all : Int) ≤ 24 * ((n : Int) - 8)) (hT : TurnTo w x d s k half n hv sv lv D all w') :
    XAt w' B x n all ∧ Over B w w' := by
  obtain ⟨nb, lv', h1, h2, h3, h4, h5, h6, h7, h8⟩ := hT
  obtain ⟨hf1, hf2⟩ := M.packed_fits ht.back ht.apart h.n1 h.n2 hr
  have hst := hs.save n (1 - half) (M.packed all)
  have hrest : M.Rest (D.save n (1 - half) (M.packed all)) n (1 - half) (M.packed all) := by
    rcases M.save_ok h.rest (by have := h.n1; omega) hf1 hf2 with e | e
    · exact e
    · have := e.dead
      rw [hst.1] at this
      cases this
  have hft : ∀ j, xFoot x d s k hv sv lv' j → B ≤ j := by
    rintro j (e | e | e | e | e | e | e)
    · exact hf j (.inl e)
    · exact hf j (.inr (.inl e))
    · exact hf j (.inr (.inr (.inl e)))
    · exact hf j (.inr (.inr (.inr (.inl e))))
    · exact hf j (.inr (.inr (.inr (.inr (.inl e)))))
    · exact hf j (.inr (.inr (.inr (.inr (.inr (.inl e))))))
    · rcases h8 j e with e | e
      · exact hf j (.inr (.inr (.inr (.inr (.inr (.inr e))))))
      · omega
  have hhi : ∀ j, xFoot x d s k hv sv lv' j → 1 < j := by
    have hlt := h.ready.lt
    rintro j (e | e | e | e | e | e | e)
    · exact h.high j (.inl e)
    · exact h.high j (.inr (.inl e))
    · exact h.high j (.inr (.inr (.inl e)))
    · exact h.high j (.inr (.inr (.inr (.inl e))))
    · exact h.high j (.inr (.inr (.inr (.inr (.inl e)))))
    · exact h.high j (.inr (.inr (.inr (.inr (.inr (.inl e))))))
    · rcases h8 j e with e | e
      · exact h.high j (.inr (.inr (.inr (.inr (.inr (.inr e))))))
      · omega
  refine ⟨⟨d, s, k, nb, 1 - half, hv, sv, lv', _, ⟨h1, h2, h3, h4, h6, h5, h.n1, h.n2, by omega, hrest, by rw [hst.2]; omega, ht, hr, hhi⟩, hst, hft⟩, ?_, ?_, ?_⟩
  · exact ⟨h7.os, h7.tape, h7.output, h7.size, fun j hj => h7.block j (by omega) (fun e => by have := hf j (.inr e); omega)⟩
  · exact fun v l e => strs_chg e h7 (fun j hj => h.noStr j (.inr hj))
  · refine fun j c f e => (h7.block j (Array.getElem?_eq_some_iff.1 e).1 (fun hj => ?_)).trans e
    rcases hj with rfl | rfl | hj
    · exact ty_ne e h.store (by decide) rfl
    · exact ty_ne e h.known (by decide) rfl
    · exact h.disk.off e (by decide) (by decide) (by decide) hj
def XPost (R : Sum M.Fa (List M.Pk)) (B x n : Nat) (w : World) (e : Ending) (w' : World) : Prop := match R with
  | .inl f => e = .returned (faV f) ∧ 1 ≤ f.kind ∧ f.kind ≤ 8 ∧ Below w.heap.size w w'
  | .inr all => e = .returned okV ∧ XAt w' B x n all ∧ Over B w w'
theorem x_install {w : World} {B x n : Nat} {l : List M.Pk} (h : XAt w B x n l) (hB : B ≤ w.heap.size) (xv : Value) (texts : List ByteArray) (hx : TxtsIn w xv texts) (hxn : texts.length ≤ 10000) (hxs : ∀ t ∈ texts, t.size ≤ 8192) :
    Calls Tryz.prog 21 #[.pointer (some ⟨x, 0, none⟩), xv] w (XPost (M.installedS l (texts.map fun t => t.data.toList) (24 * ((n : Int) - 8))) B x n w) := by
  obtain ⟨d, s, k, b, half, hv, sv, lv, D, h1, h2, h3⟩ := h
  refine (sess_install h1 xv texts hx hxn hxs).mono fun e w' hp => ?_
  cases hR : M.installedS l (texts.map fun t => t.data.toList) (24 * ((n : Int) - 8)) with
  | inl f =>
    rw [hR] at hp
    obtain ⟨k1, k2⟩ := inst_kind hR
    exact ⟨hp.1, k1, k2, hp.2⟩
  | inr all =>
    rw [hR] at hp
    obtain ⟨_, _, _, _, _, q1, _, q2⟩ := M.installed_ok hR h1.tog.back h1.tog.apart
    exact ⟨hp.1, h1.turned h2 h3 hB q1 q2 hp.2⟩
theorem x_remove {w : World} {B x n : Nat} {l : List M.Pk} (h : XAt w B x n l) (hB : B ≤ w.heap.size) (xv : Value) (names : List ByteArray) (hx : TxtsIn w xv names) (hxn : names.length ≤ 10000) (hxs : ∀ t ∈ names, t.size ≤ 8192) :
    Calls Tryz.prog 24 #[.pointer (some ⟨x, 0, none⟩), xv] w (XPost (M.removedS l (names.map fun t => t.data.toList)) B x n w) := by
  obtain ⟨d, s, k, b, half, hv, sv, lv, D, h1, h2, h3⟩ := h
  refine (sess_remove h1 xv names hx hxn hxs).mono fun e w' hp => ?_
  cases hR : M.removedS l (names.map fun t => t.data.toList) with
  | inl f =>
    rw [hR] at hp
    obtain ⟨k1, k2⟩ := rem_kind hR
    exact ⟨hp.1, k1, k2, hp.2⟩
  | inr all =>
    rw [hR] at hp
    obtain ⟨q1, _, q2⟩ := M.removed_ok hR h1.tog
    exact ⟨hp.1, h1.turned h2 h3 hB q1 (by have := h1.room; omega) hp.2⟩
def txsB (l : List M.Pk) : List ByteArray := (M.textsS l).map fun t => ⟨t.toArray⟩
theorem txsB_len (l : List M.Pk) : (txsB l).length = l.length := by unfold txsB; rw [List.length_map, M.texts_len]
theorem x_packs {w : World} {B x n : Nat} {l : List M.Pk} (h : XAt w B x n l) : Calls Tryz.prog 22 #[.pointer (some ⟨x, 0, none⟩)] w fun e w' => ∃ a c, e = .returned (.tuple #[.slice a l.length c, .bool true]) ∧ StrsIn w' (.slice a l.length c) (txsB l) ∧ Below w.heap.size w w' := by
  obtain ⟨d, s, k, b, half, hv, sv, lv, D, h1, h2, h3⟩ := h
  obtain ⟨z1, z2⟩ := h1.size
  refine (xPackages_any x d s k b l w h1.sess h1.store h1.set (by omega) h1.reads (by omega)).mono ?_
  rintro e w' ⟨a, c, rfl, ho, hB⟩
  rw [← M.texts_len] at ho
  exact ⟨a, c, rfl, by rw [← M.texts_len]; exact strs_own ho, hB⟩
def afterI (l : List M.Pk) : Sum M.Fa (List M.Pk) → List M.Pk
  | .inl _ => l
  | .inr all => all
def faultI : Sum M.Fa (List M.Pk) → M.Fa
  | .inl f => f
  | .inr _ => M.okFa
theorem x_uni {R : Sum M.Fa (List M.Pk)} {B x n : Nat} {l : List M.Pk} {w w' : World} {e : Ending} (h : XAt w B x n l) (hB : B ≤ w.heap.size) (hp : XPost R B x n w e w') : e = .returned (faV (faultI R)) ∧ XAt w' B x n (afterI l R) ∧ Over B w w' := by
  cases R with
  | inl f => exact ⟨hp.1, h.below hp.2.2.2, Over.of hB hp.2.2.2⟩
  | inr all => exact hp
def lenP : Sum M.Fa (List M.Pk × List (List UInt8)) → Nat
  | .inl _ => 0
  | .inr q => q.2.length
def faultP : Sum M.Fa (List M.Pk × List (List UInt8)) → M.Fa
  | .inl f => f
  | .inr _ => M.okFa
theorem x_plan {w : World} {B x n : Nat} {l : List M.Pk} (h : XAt w B x n l) (xv : Value) (texts : List ByteArray) (hx : TxtsIn w xv texts) (hxn : texts.length ≤ 10000) (hxs : ∀ t ∈ texts, t.size ≤ 8192) :
    Calls Tryz.prog 26 #[.pointer (some ⟨x, 0, none⟩), xv] w fun e w' => ∃ a c, e = .returned (.tuple #[.slice a (lenP (M.plannedS l (texts.map fun t => t.data.toList))) c, faV (faultP (M.plannedS l (texts.map fun t => t.data.toList)))]) ∧ (∃ N : List ByteArray, StrsIn w' (.slice a (lenP (M.plannedS l (texts.map fun t => t.data.toList))) c) N ∧ ∀ all names, M.plannedS l (texts.map fun t => t.data.toList) = .inr (all, names) → N = names.map fun n : List UInt8 => (⟨n.toArray⟩ : ByteArray)) ∧ Below w.heap.size w w' := by
  obtain ⟨d, s, k, b, half, hv, sv, lv, D, h1, h2, h3⟩ := h
  obtain ⟨z1, z2⟩ := h1.size
  refine (xPlan_any x d s k b l xv texts w h1.ready h1.sess h1.store h1.set hx hxn hxs (by omega) h1.reads).mono ?_
  rintro e w' ⟨hB, hm⟩
  cases hR : M.plannedS l (texts.map fun t => t.data.toList) with
  | inl f =>
    rw [hR] at hm
    exact ⟨none, 0, hm, ⟨[], StrsIn.none w', fun _ _ e => by cases e⟩, hB⟩
  | inr q =>
    obtain ⟨all, names⟩ := q
    rw [hR] at hm
    obtain ⟨v, rfl, hv2⟩ := hm
    obtain ⟨a, c, rfl⟩ := hv2.form
    rw [List.length_map] at hv2 ⊢
    exact ⟨a, c, rfl, ⟨names.map fun n : List UInt8 => (⟨n.toArray⟩ : ByteArray), hv2, fun all' names' e => by cases e; rfl⟩, hB⟩
end Go.Proofs.YtgnfknjopafngaaGreatDoor
namespace Go.Proofs.YtgnfknjopafngaaGreatDoor
open Go.RowKit
theorem ba_ne {a b : ByteArray} (h : a ≠ b) : (a.toList == b.toList) = false := by
  rw [Bool.eq_false_iff]
  intro e
  exact h (bytes_same (by rw [Lib.toList_data, Lib.toList_data] at e; simpa using e))
end Go.Proofs.YtgnfknjopafngaaGreatDoor
namespace Go.Proofs.YtgnfknjopafngaaGreatDoor
open Go.RowKit Go.Maps
def bytesL (l : List ByteArray) : Nat := (l.map fun t => t.size).sum
theorem bytesL_take {l : List ByteArray} {k : Nat} (hk : k < l.length) : bytesL (l.take (k + 1)) = bytesL (l.take k) + l[k].size := by
  unfold bytesL
  rw [List.take_succ_eq_append_getElem hk, List.map_append, List.sum_append]
  simp
theorem bytesL_le (l : List ByteArray) (k : Nat) : bytesL (l.take k) ≤ bytesL l := by
  have h : bytesL l = bytesL (l.take k) + bytesL (l.drop k) := by
    unfold bytesL
    rw [← List.sum_append, ← List.map_append, List.take_append_drop]
  omega
def smallB (l : List ByteArray) : Bool := decide (l.length + bytesL l ≤ 4096)
set_option maxRecDepth 100000 in
set_option maxHeartbeats 2000000 in
theorem ksmall_any (v : Value) (l : List ByteArray) (w : World) (hv : TxtsIn w v l) (hl : l.length ≤ 1000000000000000000) (hs : ∀ t ∈ l, t.size ≤ 1000000000000000000) :
    Calls Tryz.prog 19 #[v] w fun e w' => e = .returned (.bool (smallB l)) ∧ Below w.heap.size w w' := by
  obtain ⟨a, cap, rfl⟩ := hv.form
  have HV : Hid (TxtsIn w (.slice a l.length cap) l) := hv
  have HS : Hid (∀ t ∈ l, t.size ≤ 1000000000000000000) := hs
  obtain ⟨D, hD⟩ : ∃ D, D = smallB l := ⟨_, rfl⟩
  have HD : Hid (D = smallB l) := hD
  rw [← hD]
  clear hv hs hD
  go_enter Tryz.func19, Tryz.ntmps19
  go_wp2
  go_loopw [3, 4] (fun n i wr => ∃ k : Nat, i = .int .i64 k ∧ k ≤ l.length ∧ ∃ m : Nat, n = .int .i64 m ∧ (0 < k → m ≤ 4096) ∧ m ≤ 1000000000000000000 ∧ Hid (m = l.length + bytesL (l.take k)) ∧ Below w.heap.size w wr) (fun _ i _ => l.length - (intOf i).toNat)
  case atStart => exact ⟨0, rfl, Nat.zero_le _, l.length, rfl, fun h => absurd h (Nat.lt_irrefl _), hl, by show _ = _; simp [bytesL], Below.refl _ _⟩
  case round =>
    obtain ⟨k, rfl, hk, m, rfl, hm4, hm, HM, hBr⟩ := hrel
    by_cases hlt : k < l.length
    · obtain ⟨g, off, rfl, hg, hcap, hc⟩ := HV.out.cellAt (by omega)
      have p3 := (hBr.cell (p := ⟨g, off + k, none⟩) hg).trans (hc k hlt)
      have hsz := HS.out _ (List.getElem_mem hlt)
      have HB : Hid (bytesL (l.take (k + 1)) = bytesL (l.take k) + l[k].size) := bytesL_take hlt
      generalize l[k] = S at p3 hsz HB
      clear hc
      by_cases hb : 4096 < m + S.size
      · have HD2 : Hid (D = false) := by
          show _ = _
          rw [HD.out]
          have h1 := bytesL_le l (k + 1)
          have h2 := HM.out
          have h3 := HB.out
          unfold smallB
          simp
          omega
        go_wp2
        go_ret
        exact ⟨by rw [HD2.out]; rfl, hBr⟩
      · go_wp2
        go_roundw
        case rel => exact ⟨k + 1, by go_num, by omega, m + S.size, by go_num, fun _ => by omega, by omega, by show _ = _; have h1 := HM.out; have h2 := HB.out; omega, hBr⟩
        case measure => simp [intOf]; omega
    · have HE : Hid (D = decide (m ≤ 4096)) := by
        show _ = _
        have h2 := HM.out
        have hkk : k = l.length := by omega
        rw [hkk, List.take_length] at h2
        rw [HD.out, h2]
        rfl
      go_wp2
      go_ret
      exact ⟨ret_bool (by rw [HE.out, decide_eq_decide]; omega), hBr⟩
end Go.Proofs.YtgnfknjopafngaaGreatDoor
namespace Go.Proofs.YtgnfknjopafngaaGreatDoor
open Go.RowKit Go.Maps
theorem small_sz {l : List ByteArray} (h : smallB l = true) : l.length ≤ 4096 ∧ ∀ t ∈ l, t.size ≤ 4096 := by
  unfold smallB at h
  have h1 : l.length + bytesL l ≤ 4096 := by simpa using h
  refine ⟨by omega, fun t ht => ?_⟩
  have := mem_le_sum (List.mem_map.2 ⟨t, ht, rfl⟩ : t.size ∈ l.map fun t => t.size)
  unfold bytesL at h1
  omega
theorem XAt.tog {W : World} {B x n : Nat} {l : List M.Pk} (h : XAt W B x n l) : M.Tog l ∧ l.length ≤ 600 := by
  obtain ⟨d, s, k, b, half, hv, sv, lv, D, h1, h2, h3⟩ := h
  exact ⟨h1.tog, h1.size.2⟩
end Go.Proofs.YtgnfknjopafngaaGreatDoor
namespace Go.Proofs.YtgnfknjopafngaaGreatDoor
namespace M
theorem title_blank {s a b : List UInt8} (h : titleS s = some (a, b)) : (32 : UInt8) ∉ a := by
  unfold titleS at h
  split at h
  · rename_i x y z e
    split at h
    · cases h
      exact cut_no s.length s (Nat.le_refl _) a (by rw [e]; simp)
    · cases h
  · cases h
theorem Back.blank {p : Pk} (h : Back p) : (32 : UInt8) ∉ p.name := by
  unfold Back readS at h
  split at h
  · cases h
  · split at h
    · cases h
    · rename_i q e
      have hl : cutS (trimS (printS p)) [10] ≠ [] := fun e2 => by
        have := (cutS_len (trimS (printS p)) [10]).1
        rw [e2] at this
        simp at this
      obtain ⟨_, _, ht⟩ := whole_valid hl e
      have hn : q.name = p.name := by cases h; rfl
      rw [← hn]
      exact title_blank ht
end M
end Go.Proofs.YtgnfknjopafngaaGreatDoor
namespace Go.Proofs.YtgnfknjopafngaaGreatDoor
open Go.RowKit Go.Maps
set_option maxRecDepth 100000 in
set_option maxHeartbeats 2000000 in
theorem kname_any (T N : ByteArray) (r : List UInt8) (w : World) (hT : T.data.toList = [112, 97, 99, 107, 97, 103, 101, 32] ++ (N.data.toList ++ 32 :: r)) (hN : (32 : UInt8) ∉ N.data.toList) (hs : T.size ≤ 1000000) :
    Calls Tryz.prog 23 #[.string T] w fun e w' => e = .returned (.string N) ∧ Below w.heap.size w w' := by
  have hsz : T.size = 8 + N.size + 1 + r.length := by
    rw [← len_data, hT, ← len_data]
    simp
    omega
  have hex : T.extract 8 (8 + N.size) = N := by
    apply bytes_same
    rw [ByteArray.data_extract, Array.toList_extract, hT, ← len_data]
    simp
  have hbyte : ∀ m (hm : m < T.size), 8 ≤ m → T[m] = (N.data.toList ++ 32 :: r)[m - 8]'(by rw [List.length_append, len_data, List.length_cons]; omega) := fun m hm h8 => by
    have h1 : T.data.toList[m]'(by rw [len_data]; exact hm) = T[m] := by rw [Array.getElem_toList]; rfl
    rw [← h1]
    simp only [hT]
    rw [List.getElem_append_right (by simpa using h8)]
    rfl
  have HB1 : Hid (∀ m (hm : m < T.size), 8 ≤ m → m < 8 + N.size → ((T[m]).toNat : Int) ≠ 32) := fun m hm h8 hlt e => by
    rw [hbyte m hm h8, List.getElem_append_left (by rw [len_data]; omega)] at e
    apply hN
    have e2 : N.data.toList[m - 8]'(by rw [len_data]; omega) = 32 := UInt8.toNat_inj.1 (by have : ((32 : UInt8).toNat : Int) = 32 := rfl; omega)
    rw [← e2]
    exact List.getElem_mem _
  have HB2 : Hid (∀ (hm : 8 + N.size < T.size), ((T[8 + N.size]).toNat : Int) = 32) := fun hm => by
    rw [hbyte _ hm (by omega), List.getElem_append_right (by rw [len_data]; omega)]
    simp only [len_data, Nat.add_sub_cancel_left, Nat.sub_self, List.getElem_cons_zero]
    rfl
  clear hT hN hbyte
  go_enter Tryz.func23, Tryz.ntmps23
  go_wp2
  go_loopw [3] (fun i wr => ∃ m : Nat, i = .int .i64 m ∧ 8 ≤ m ∧ m ≤ 8 + N.size ∧ w = wr) (fun i _ => 8 + N.size - (intOf i).toNat)
  case atStart => exact ⟨8, rfl, Nat.le_refl _, by omega, rfl⟩
  case round =>
    obtain ⟨m, rfl, h8, hm, rfl⟩ := hrel
    have hlt : m < T.size := by omega
    by_cases hk : m < 8 + N.size
    · have b1 := HB1.out m hlt h8 hk
      have b2 : (((T[m]'hlt).toNat : Int) == 32) = false := by simpa using b1
      go_wp2
      go_roundw
      case rel => exact ⟨m + 1, by go_num, by omega, by omega, by first | rfl | trivial⟩
      case measure => simp [intOf]; omega
    · have hmm : m = 8 + N.size := by omega
      subst hmm
      have b1 := HB2.out hlt
      go_wp2
      go_ret
      exact ⟨by show Ending.returned (.string (T.extract 8 (8 + N.size))) = _; rw [hex], Below.refl _ _⟩
end Go.Proofs.YtgnfknjopafngaaGreatDoor
namespace Go.Proofs.YtgnfknjopafngaaGreatDoor
open Go.RowKit
structure OpD where
  kind : Int
  a : Int
  b : Int
  s : ByteArray
def OpsIn (w : World) (v : Value) (ops : List OpD) : Prop := ∃ a cap, v = .slice a ops.length cap ∧ ops.length ≤ cap ∧ cap ≤ maxLen ∧ (0 < ops.length → ∃ g off, a = some ⟨g, off, none⟩ ∧ g < w.heap.size ∧
  ∀ i (hi : i < ops.length), w.cell? ⟨g, off + i * 4, none⟩ = some (.int .i64 ops[i].kind) ∧ w.cell? ⟨g, off + i * 4 + 1, none⟩ = some (.int .i64 ops[i].a) ∧ w.cell? ⟨g, off + i * 4 + 2, none⟩ = some (.int .i64 ops[i].b) ∧ w.cell? ⟨g, off + i * 4 + 3, none⟩ = some (.string ops[i].s))
theorem OpsIn.below {w w' : World} {v : Value} {ops : List OpD} (h : OpsIn w v ops) (hb : Below w.heap.size w w') : OpsIn w' v ops := by
  obtain ⟨a, cap, e, h1, h2, h3⟩ := h
  refine ⟨a, cap, e, h1, h2, fun h0 => ?_⟩
  obtain ⟨g, off, e1, hg, hc⟩ := h3 h0
  refine ⟨g, off, e1, Nat.lt_of_lt_of_le hg hb.size, fun i hi => ?_⟩
  obtain ⟨k0, k1, k2, k3⟩ := hc i hi
  exact ⟨(hb.cell (p := ⟨g, off + i * 4, none⟩) hg).trans k0, (hb.cell (p := ⟨g, off + i * 4 + 1, none⟩) hg).trans k1, (hb.cell (p := ⟨g, off + i * 4 + 2, none⟩) hg).trans k2, (hb.cell (p := ⟨g, off + i * 4 + 3, none⟩) hg).trans k3⟩
def bytesOf (ops : List OpD) : Nat := (ops.map fun o => o.s.size).sum
end Go.Proofs.YtgnfknjopafngaaGreatDoor
namespace Go.Proofs.YtgnfknjopafngaaGreatDoor
open Go.ChangeShapes Go.WideShapes Go.Deep
theorem weights_all {H : Type} {P : Program} {e : TypeId} : ∀ {l : List (DataW H)} {i : Nat} {d : DataW H}, l[i]? = some d → ∀ n ∈ d.weights P e, n ∈ DataW.weightsAll P e l
  | d0 :: l, 0, d, h, n, hn => by
    simp only [List.getElem?_cons_zero, Option.some.injEq] at h
    subst h
    simp only [DataW.weightsAll, List.mem_append]
    exact .inl hn
  | d0 :: l, i + 1, d, h, n, hn => by
    simp only [List.getElem?_cons_succ] at h
    simp only [DataW.weightsAll, List.mem_append]
    exact .inr (weights_all h n hn)
  | [], i, d, h, _, _ => by simp at h
theorem spot_none {w : World} {a : Addr} {v : Value} (h : w.cell? a = some v) : a.spot = none := by
  unfold World.cell? at h
  split at h
  · split at h
    · cases h
    · rename_i h1; simpa using h1
  · cases h
theorem addr_add {b o : Nat} (i : Nat) : (⟨b, o, none⟩ : Addr).add i = ⟨b, o + i, none⟩ := by
  unfold Addr.add
  by_cases h : i = 0
  · simp [h]
  · simp [h]
end Go.Proofs.YtgnfknjopafngaaGreatDoor
namespace Go.Proofs.YtgnfknjopafngaaGreatDoor
open Go.ChangeShapes Go.WideShapes Go.Deep
set_option maxRecDepth 10000 in
theorem open_txts {H : Type} {enc : TypeId × Value → H} {W : World} {spare : Nat → Bool} {held : Bool} {base : Nat} {v : Value} {d : DataW H} {p : List MemPlace} (hv : ∃ a l c, v = .slice a l c)
    (h : DataW.Trod enc Tryz.prog W base spare held 43 v d p) (hz : ∀ n ∈ d.weights Tryz.prog 43, n ≤ reachBytes) : ∃ l, TxtsIn W v l ∧ l.length ≤ reachBytes ∧ ∀ t ∈ l, t.size ≤ reachBytes := by
  obtain ⟨va, vl, vc, rfl⟩ := hv
  obtain ⟨fuel, h⟩ := h
  have cs : Tryz.prog.cellsOf 9 = 1 := by kernel_rfl
  have bs : Tryz.prog.bytesOf 9 = 16 := by kernel_rfl
  rcases open_slice Tryz.underlying43 h with ⟨h0, _⟩ | ⟨a, len, cap, m, n, D, Pl, h0, hb, hl, hm, hmm, hx, hel⟩
  · have e : Value.slice va vl vc = .slice none 0 0 := by simpa [Value.cells] using h0
    rw [e]
    exact ⟨[], .inl ⟨rfl, _, _, rfl⟩, Nat.zero_le _, fun o ho => by cases ho⟩
  · have e : Value.slice va vl vc = .slice (some a) len cap := by simpa [Value.cells] using h0
    rw [e]
    have hlm : len ≤ m := by rw [hmm]; split <;> omega
    have hlen : len ≤ reachBytes := by
      simp only [Prod.mk.injEq] at hx
      have := hz _ (by
        rw [hx.1]
        unfold DataW.weights
        rw [Tryz.underlying43]
        exact List.mem_cons_self)
      rw [bs, List.length_map, List.length_range] at this
      omega
    have each : ∀ i, i < len → ∃ s : ByteArray, W.cell? (a.add i) = some (.string s) ∧ s.size ≤ reachBytes := by
      intro i hi
      obtain ⟨cs', h1, h2⟩ := hel i (by omega)
      rw [cs] at h1
      obtain ⟨_, hlen, hcell⟩ := World.cells?_some h1
      match cs', hlen with
      | [v0], _ =>
        obtain ⟨s3, e3, e4, _⟩ := DataW.trod_string Tryz.underlying9 h2
        have k0 := hcell 0 (by omega)
        rw [add_add] at k0
        simp at e3
        subst e3
        refine ⟨s3, by simpa using k0, ?_⟩
        simp only [Prod.mk.injEq] at hx
        have hw : s3.data.toList.length ∈ (D i).weights Tryz.prog 9 := by
          rw [show D i = .lit (.string s3.data.toList) from congrArg Prod.fst e4]
          simp [DataW.weights]
        have := hz s3.data.toList.length (by
          rw [hx.1]
          unfold DataW.weights
          rw [Tryz.underlying43]
          simp only [List.mem_cons, List.mem_append]
          refine .inr (.inl (weights_all (i := i) (d := D i) ?_ _ hw))
          rw [List.getElem?_map, List.getElem?_range hi]
          rfl)
        simpa using this
    haveI : Inhabited ByteArray := ⟨⟨#[]⟩⟩
    obtain ⟨q, hq⟩ := choose_lt each
    refine ⟨(List.range len).map q, ?_, by simpa using hlen, fun o ho => ?_⟩
    · by_cases hl0 : 0 < len
      · have hs := spot_none (by have := (hq 0 hl0).1; simpa [Addr.add] using this)
        obtain ⟨g, off, sp⟩ := a
        simp only at hs
        subst hs
        refine .inr ⟨g, off, cap, by simp, by simpa using hl, by have := World.block_lt_of_cell? _ _ (hq 0 hl0).1; simpa [Addr.add] using this, fun i hi => ?_⟩
        have hi' : i < len := by simpa using hi
        have k0 := (hq i hi').1
        rw [addr_add] at k0
        simp only [List.getElem_map, List.getElem_range]
        exact k0
      · have e0 : len = 0 := by omega
        subst e0
        exact .inl ⟨rfl, _, _, rfl⟩
    · obtain ⟨i, hi, rfl⟩ := List.mem_map.1 ho
      exact (hq i (List.mem_range.1 hi)).2
end Go.Proofs.YtgnfknjopafngaaGreatDoor
namespace Go.Proofs.YtgnfknjopafngaaGreatDoor
namespace LaidKit
open Go.ChangeShapes Go.WideShapes Go.ChangeAt Go.RowKit
def L : List (String × DataW Unit) := [("unicode/utf8.acceptRanges", Rows.laid_unicode_utf8_acceptRanges), ("errors.errorType", Rows.laid_errors_errorType), ("unicode/utf8.first", Rows.laid_unicode_utf8_first)]
theorem own : ownKnob Tryz.prog.godebug = none := by kernel_rfl
theorem et : Tryz.prog.globalNamed "errors.errorType" = some 0 := by kernel_rfl
theorem rt : (Tryz.prog.cutTypes.find? (·.1 == "internal/reflectlite.rtype")).map (·.2) = some 221 := by kernel_rfl
theorem oneRow : ((List.range 381).filter fun t => Tryz.prog.rowNamed t [101, 114, 114, 111, 114]) = [67] := by kernel_rfl
theorem size : Tryz.prog.types.size = 381 := by kernel_rfl
theorem hlist : (L.filter fun x => x.2.handleName?.isSome) = [("errors.errorType", Rows.laid_errors_errorType)] := by kernel_rfl
theorem laidOut : laidOutB Tryz.prog = true := by kernel_rfl
theorem laid_err {W : World} (h : laidMetH Tryz.prog L W) : ErrLaid W := by
  unfold laidMetH at h
  rw [hlist] at h
  obtain ⟨name, u, ty, e1, e2, e3, e4, e5⟩ := h.2 _ (List.mem_singleton.2 rfl)
  have en : name = [101, 114, 114, 111, 114] := (Option.some.inj e1).symm
  subst en
  obtain rfl := Option.some.inj (rt.symm.trans e2)
  have hm : ty ∈ (List.range 381).filter fun t => Tryz.prog.rowNamed t [101, 114, 114, 111, 114] := List.mem_filter.2 ⟨List.mem_range.2 (by rw [← size]; exact e3), e4⟩
  rw [oneRow] at hm
  obtain rfl := List.mem_singleton.1 hm
  have hh : typeHandle Tryz.prog 67 = .pointer (some ⟨4, 67, none⟩) := by kernel_rfl
  rw [hh] at e5
  have h0 := World.var?_cell et e5 0
  show W.cell? ⟨0, 0, none⟩ = _
  simpa using h0
def dataL : List (String × DataW Unit) := L.filter fun x => x.2.handleName?.isNone
def setH : Obj → Obj
  | .cells _ t frozen => .cells #[.iface 221 (.agg #[.pointer (some ⟨4, 67, none⟩)])] t frozen
  | o => o
def witH (w0 : World) : World := { w0 with heap := w0.heap.modify 0 setH }
theorem wit_os (os : Os) : ((witH (World.holding Tryz.prog os ⟨#[], #[], []⟩)).layVars Tryz.prog dataL).os = os := (World.layVars_os _ _ _).trans rfl
theorem wit_data (os : Os) : laidMet Tryz.prog dataL ((witH (World.holding Tryz.prog os ⟨#[], #[], []⟩)).layVars Tryz.prog dataL) := by
  have e1 : (dataL.filter fun x => (dataL.map (·.1)).contains x.1) = dataL := List.filter_eq_self.2 fun x hx => List.contains_iff_mem.2 (List.mem_map.2 ⟨x, hx, rfl⟩)
  have e2 : (dataL.filter fun x => !(dataL.map (·.1)).contains x.1) = [] := List.filter_eq_nil_iff.2 fun x hx => by rw [List.contains_iff_mem.2 (List.mem_map.2 ⟨x, hx, rfl⟩)]; simp
  exact laidMet_layVars (w0 := witH (World.holding Tryz.prog os ⟨#[], #[], []⟩)) (dataL.map (·.1)) [] (by rw [e1]) (by rw [e1]; kernel_rfl) (by rw [e1]; kernel_rfl) (by rw [e2]; exact LaidIn.none)
theorem wit_met (os : Os) (args : Array Value) : laidMetH Tryz.prog L (((witH (World.holding Tryz.prog os ⟨#[], #[], []⟩)).layVars Tryz.prog dataL).forCall (fun _ _ => 0) ⟨#[], args, []⟩).memory :=
  laidMetH_of_parts ((wit_data os).of_heap (by simp [World.memory, World.forCall, Input.heap])) (by kernel_rfl)
theorem maxLen_int {W : World} (h : W.ShapedOpen Tryz.prog) : ∃ m, W.cell? ⟨1, 0, none⟩ = some (.int .i64 m) :=
  Go.Proofs.cell_of_shapedOpen_int (zero := #[.int .i64 0]) (t := 3) h (of_decide_eq_true (by kernel_rfl)) (by kernel_rfl) rfl (by kernel_rfl) (by kernel_rfl) Tryz.underlying3
theorem weights_of {H : Type} {ts : List TypeId} {ds : List (DataW H)} (h : (DataW.weightsEach Tryz.prog ts ds).all (· ≤ reachBytes) = true) {j : Nat} {t : TypeId} {d : DataW H} (ht : ts[j]? = some t) (hd : ds[j]? = some d) : ∀ n ∈ d.weights Tryz.prog t, n ≤ reachBytes := fun n hn => by
  have := List.all_eq_true.1 h n (DataW.weights_mem_each ht hd n hn)
  simpa using this
end LaidKit
end Go.Proofs.YtgnfknjopafngaaGreatDoor
