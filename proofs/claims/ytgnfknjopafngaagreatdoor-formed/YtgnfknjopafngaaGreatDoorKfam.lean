import Derived.Test.YtgnfknjopafngaaGreatDoorKfal
import Derived.Test.YtgnfknjopafngaaGreatDoorKfw
import Derived.Test.YtgnfknjopafngaaGreatDoorKfv
import Derived.Test.YtgnfknjopafngaaGreatDoorKfr
import Derived.Carry
import Derived.Test.YtgnfknjopafngaaGreatDoorKfc
namespace Go.Proofs.YtgnfknjopafngaaGreatDoor
open Go.RowKit Go.Maps
theorem readAll_kind : ∀ (ts : List (List UInt8)) (i : Nat) (acc : List M.Pk) (f : M.Fa), M.readAllS ts i acc = .inl f → f.kind = 1
  | [], i, acc, f, h => by simp [M.readAllS] at h
  | t :: ts, i, acc, f, h => by
    simp only [M.readAllS] at h
    cases hr : M.readS t with
    | inl n => rw [hr] at h; cases h; rfl
    | inr p => rw [hr] at h; exact readAll_kind ts _ _ f h
theorem addAll_kind : ∀ (ps : List M.Pk) (i : Nat) (all : List M.Pk) (f : M.Fa), M.addAllS ps i all = .inl f → f.kind = 2
  | [], i, acc, f, h => by simp [M.addAllS] at h
  | p :: ps, i, acc, f, h => by
    simp only [M.addAllS] at h
    by_cases hp : 0 ≤ M.findS acc p.name
    · rw [if_pos hp] at h; cases h; rfl
    · rw [if_neg hp] at h; exact addAll_kind ps _ _ f h
theorem checked_kind {there fresh all : List M.Pk} {f : M.Fa} (h : M.checkedS there fresh all = .inl f) : 1 ≤ f.kind ∧ f.kind ≤ 8 := by
  unfold M.checkedS at h
  split at h
  · cases h; exact ⟨by simp, by simp⟩
  · split at h
    · cases h; exact ⟨by simp, by simp⟩
    · split at h
      · cases h; exact ⟨by simp, by simp⟩
      · split at h
        · cases h; exact ⟨by simp, by simp⟩
        · cases h
theorem planned_kinds {there : List M.Pk} {T : List (List UInt8)} {f : M.Fa} (h : M.plannedS there T = .inl f) : 1 ≤ f.kind ∧ f.kind ≤ 8 := by
  unfold M.plannedS at h
  cases hr : M.readAllS T 0 [] with
  | inl g =>
    rw [hr] at h
    cases h
    have := readAll_kind _ _ _ _ hr
    omega
  | inr l =>
    rw [hr] at h
    simp only at h
    cases ha : M.addAllS l 0 there with
    | inl g =>
      rw [ha] at h
      cases h
      have := addAll_kind _ _ _ _ ha
      omega
    | inr all =>
      rw [ha] at h
      exact checked_kind h
end Go.Proofs.YtgnfknjopafngaaGreatDoor
namespace Go.Proofs.YtgnfknjopafngaaGreatDoor
open Go.RowKit Go.Maps
structure SessIs (W : World) (x d s k b half n : Nat) (hv sv lv : Value) (D : M.Dk) (l : List M.Pk) : Prop where
  ready : Ready W
  sess : SessAt W x d (.pointer (some ⟨s, 0, none⟩))
  store : StoreAt W s k b
  known : KnownAt W k d half
  disk : DiskIs W d hv sv lv D
  set : SetIn W b l
  n1 : 16 ≤ n
  n2 : n ≤ 256
  ho : half ≤ 1
  rest : M.Rest D n half (M.packed l)
  left : D.left ≤ 9223372036854775807
  tog : M.Tog l
  room : (M.sizeS l : Int) ≤ 24 * ((n : Int) - 8)
  high : ∀ j, (j = x ∨ j = s ∨ j = k ∨ dFoot d hv sv lv j) → 1 < j
def xFoot (x d s k : Nat) (hv sv lv : Value) (j : Nat) : Prop := j = x ∨ j = s ∨ j = k ∨ dFoot d hv sv lv j
theorem ReadP.of {p : M.Pk} (h : M.Back p) : ReadP p := readP h
theorem SessIs.reads {W : World} {x d s k b half n : Nat} {hv sv lv : Value} {D : M.Dk} {l : List M.Pk} (h : SessIs W x d s k b half n hv sv lv D l) : ∀ p ∈ l, ReadP p := fun p hp => ReadP.of (h.tog.back p hp)
theorem SessIs.size {W : World} {x d s k b half n : Nat} {hv sv lv : Value} {D : M.Dk} {l : List M.Pk} (h : SessIs W x d s k b half n hv sv lv D l) : M.sizeS l ≤ 5952 ∧ l.length ≤ 600 := by
  have h1 := h.room
  have h2 := h.n2
  have h3 := M.size_long h.tog.back
  omega
theorem SessIs.below {W W' : World} {x d s k b half n : Nat} {hv sv lv : Value} {D : M.Dk} {l : List M.Pk} (h : SessIs W x d s k b half n hv sv lv D l) (hb : Below W.heap.size W W') : SessIs W' x d s k b half n hv sv lv D l :=
  ⟨h.ready.below hb, (hb.block x (Array.getElem?_eq_some_iff.1 h.sess).1).trans h.sess, (hb.block s (Array.getElem?_eq_some_iff.1 h.store).1).trans h.store, KnownAt.below h.known hb, h.disk.below hb, h.set.below hb, h.n1, h.n2, h.ho, h.rest, h.left, h.tog, h.room, h.high⟩
theorem SessIs.secs {W : World} {x d s k b half n : Nat} {hv sv lv : Value} {D : M.Dk} {l : List M.Pk} (h : SessIs W x d s k b half n hv sv lv D l) : D.seen.length = n ∧ D.held.length = n := by
  have h1 := h.rest.lies.len
  have h2 := h.rest.same
  exact ⟨h1, by rw [h2]; exact h1⟩
theorem ty_ne {w : World} {a b : Nat} {c c' : Array Value} {t t' : TypeId} {f f' : Nat × Nat} (h : w.heap[a]? = some (.cells c t f)) (h' : w.heap[b]? = some (.cells c' t' f')) (ht : t ≠ t') : a ≠ b := by
  rintro rfl
  rw [h] at h'
  cases h'
  exact ht rfl
theorem DiskIs.ty {w : World} {d : Nat} {hv sv lv : Value} {D : M.Dk} (h : DiskIs w d hv sv lv D) {j : Nat} (hj : dFoot d hv sv lv j) : ∃ c t, w.heap[j]? = some (.cells c t (0, 0)) ∧ (t = 103 ∨ t = 131 ∨ t = 146) := by
  rcases hj with rfl | e | e | e
  · exact ⟨_, _, h.blk, .inl rfl⟩
  · obtain ⟨c, hc⟩ := h.held.type j e; exact ⟨_, _, hc, .inr (.inl rfl)⟩
  · obtain ⟨c, hc⟩ := h.seen.type j e; exact ⟨_, _, hc, .inr (.inl rfl)⟩
  · obtain ⟨c, hc⟩ := h.late.type j e; exact ⟨_, _, hc, .inr (.inr rfl)⟩
theorem DiskIs.off {w : World} {d : Nat} {hv sv lv : Value} {D : M.Dk} (h : DiskIs w d hv sv lv D) {j : Nat} {c : Array Value} {t : TypeId} {f : Nat × Nat} (hj : w.heap[j]? = some (.cells c t f)) (h1 : t ≠ 103) (h2 : t ≠ 131) (h3 : t ≠ 146) : ¬ dFoot d hv sv lv j := fun e => by
  obtain ⟨c', t', e', ht⟩ := h.ty e
  rw [hj] at e'
  cases e'
  rcases ht with rfl | rfl | rfl
  · exact h1 rfl
  · exact h2 rfl
  · exact h3 rfl
theorem SessIs.noText {W : World} {x d s k b half n : Nat} {hv sv lv : Value} {D : M.Dk} {l : List M.Pk} (h : SessIs W x d s k b half n hv sv lv D l) : NoText (xFoot x d s k hv sv lv) W := by
  obtain ⟨h1, h2⟩ := h.secs
  rintro j (rfl | rfl | rfl | e)
  · exact NoText.one h.sess (fun s e => by cases e) (fun a n p e => by cases e) (by decide) _ rfl
  · exact NoText.one h.store (fun s e => by cases e) (fun a n p e => by cases e) (by decide) _ rfl
  · exact NoText.one h.known (fun s e => by cases e) (fun a n p e => by cases e) (by decide) _ rfl
  · exact h.disk.noText (by have := h.n1; omega) (by have := h.n1; omega) j e
def TurnTo (w : World) (x d s k half n : Nat) (hv sv lv : Value) (D : M.Dk) (all : List M.Pk) (w' : World) : Prop :=
  ∃ nb lv', Ready w' ∧ SessAt w' x d (.pointer (some ⟨s, 0, none⟩)) ∧ StoreAt w' s k nb ∧ KnownAt w' k d (1 - half) ∧ SetIn w' nb all ∧ DiskIs w' d hv sv lv' (D.save n (1 - half) (M.packed all)) ∧ Chg (fun j => j = s ∨ j = k ∨ dFoot d hv sv lv j) w w' ∧ (∀ j, lv'.ownBlock = some j → lv.ownBlock = some j ∨ w.heap.size ≤ j)
theorem noU8_one {w : World} {j : Nat} {c : Array Value} {t : TypeId} {f : Nat × Nat} (h : w.heap[j]? = some (.cells c t f)) (ht : t ≠ 5) : NoU8 (fun i => i = j) w := by
  rintro i rfl cur fz e
  rw [h] at e
  cases e
  exact ht rfl
theorem change_post {A : World} {x d s k b half n : Nat} {hv sv lv : Value} {D : M.Dk} {l all : List M.Pk} (h : SessIs A x d s k b half n hv sv lv D l) (ht : M.Tog all) (hr : (M.sizeS all : Int) ≤ 24 * ((n : Int) - 8)) {nb : Nat} {wx : World} (hb : Below A.heap.size A wx) (hs : SetIn wx nb all) :
    Calls Tryz.prog 75 #[.pointer (some ⟨s, 0, none⟩), .map (some nb), .nilIface] wx fun e w' => e = .returned .nilIface ∧ TurnTo A x d s k half n hv sv lv D all w' := by
  have hx := h.below hb
  have hrd : ∀ p ∈ all, ReadP p := fun p hp => ReadP.of (ht.back p hp)
  have hlen : all.length ≤ 1000 := by have := M.size_long ht.back; have := h.n2; omega
  obtain ⟨hf1, hf2⟩ := M.packed_fits ht.back ht.apart h.n1 h.n2 hr
  have hoffS := hx.disk.off hx.store (by decide) (by decide) (by decide)
  have hoffX := hx.disk.off hx.sess (by decide) (by decide) (by decide)
  have hsk : s ≠ k := ty_ne hx.store hx.known (by decide)
  have hxs : x ≠ s := ty_ne hx.sess hx.store (by decide)
  have hxk : x ≠ k := ty_ne hx.sess hx.known (by decide)
  refine (change_any s k b nb d half n hv sv lv D all wx (texts_do nb all (by omega) hrd) hx.store hx.known hx.disk (h.rest.sane h.left) h.n1 h.n2 h.ho hs hlen hf1 hf2 hoffS).mono ?_
  rintro e w' ⟨rfl, W, hBW, W', hst, hgS, hkn, lv', hdk, hchg, hlv⟩
  have hcS : Chg (fun j => j = s) W' w' := Chg.grown hgS (fun j e _ => (Option.some.inj e).symm)
  have hsW : W'.heap[s]? = some (.cells #[.pointer (some ⟨k, 0, none⟩), .map (some b)] 140 (0, 0)) := (hchg.block s (Nat.lt_of_lt_of_le (Array.getElem?_eq_some_iff.1 hx.store).1 hBW.size) (fun e => e.elim hsk hoffS)).trans ((hBW.block s (Array.getElem?_eq_some_iff.1 hx.store).1).trans hx.store)
  have hF : Chg (fun j => j = s ∨ j = k ∨ dFoot d hv sv lv j) wx w' := ((Chg.below hBW).then hchg (fun j _ e => .inr e)).then hcS (fun j _ e => .inl e)
  have hnt : NoText (fun j => j = s ∨ j = k ∨ dFoot d hv sv lv j) wx := fun j e => hx.noText j (.inr e)
  refine ⟨rfl, nb, lv', ?_, ?_, hst, ?_, ?_, ?_, ?_, ?_⟩
  · exact hx.ready.chg hF (fun j e => h.high j (.inr e))
  · exact hx.sess.chg hF (fun e => e.elim hxs (fun e => e.elim hxk hoffX))
  · exact (hcS.block k (Array.getElem?_eq_some_iff.1 hkn).1 (fun e => hsk e.symm)).trans hkn
  · exact hs.chg hF hnt (fun p hp => (ht.back p hp).few)
  · exact hdk.chg hcS (noU8_one hsW (by decide)) (fun j hj e => by subst e; exact hdk.off hsW (by decide) (by decide) (by decide) hj)
  · exact (Chg.below hb).then hF (fun j _ e => e)
  · intro j hj
    rcases hlv j hj with e | e
    · exact .inl e
    · exact .inr (by have := hb.size; have := hBW.size; omega)
def TurnPost (R : Sum M.Fa (List M.Pk)) (w : World) (x d s k half n : Nat) (hv sv lv : Value) (D : M.Dk) (e : Ending) (w' : World) : Prop := match R with
  | .inl f => e = .returned (faV f) ∧ Below w.heap.size w w'
  | .inr all => e = .returned okV ∧ TurnTo w x d s k half n hv sv lv D all w'
theorem turn_post {w : World} {x d s k b half n : Nat} {hv sv lv : Value} {D : M.Dk} {l : List M.Pk} (h : SessIs w x d s k b half n hv sv lv D l) (R : Sum M.Fa (List M.Pk)) (ht : ∀ all, R = .inr all → M.Tog all) {A : World} (hA : A = w.alloc (.cells okC 23)) {e : Ending} {w' : World}
    (hp : TurnedPost R (fun all e W => e = .returned .nilIface ∧ TurnTo A x d s k half n hv sv lv D all W ∧ W.heap[w.heap.size]? = some (.cells okC 23 (0, 0))) w e w') : TurnPost R w x d s k half n hv sv lv D e w' := by
  cases R with
  | inl f => exact hp
  | inr all =>
    obtain ⟨rfl, W, ⟨-, ⟨nb, lv', h1, h2, h3, h4, h5, h6, h7, h8⟩, hr⟩, hc⟩ := hp
    have hB : Below w.heap.size w A := by rw [hA]; exact (Below.refl _ w).alloc (Nat.le_refl _) _
    have hAs : A.heap.size = w.heap.size + 1 := by rw [hA]; simp
    have nt : NoText (fun i => i = w.heap.size) W := NoText.one hr (fun s e => by cases e) (fun a n p e => by cases e)
    have hW := h7.size
    have hne : ∀ {j : Nat} {c : Array Value} {t : TypeId} {f : Nat × Nat}, W.heap[j]? = some (.cells c t f) → t ≠ 23 → j ≠ w.heap.size := fun hj hn => ty_ne hj hr hn
    refine ⟨rfl, nb, lv', ?_, ?_, ?_, ?_, ?_, ?_, ?_, ?_⟩
    · refine h1.chg hc (fun j e => ?_)
      subst e
      have := h.high x (.inl rfl)
      have := (Array.getElem?_eq_some_iff.1 h.sess).1
      omega
    · exact h2.chg hc (fun e => hne h2 (by decide) e)
    · exact (hc.block s (Array.getElem?_eq_some_iff.1 h3).1 (fun e => hne h3 (by decide) e)).trans h3
    · exact (hc.block k (Array.getElem?_eq_some_iff.1 h4).1 (fun e => hne h4 (by decide) e)).trans h4
    · exact h5.chg hc nt (fun p hp => ((ht all rfl).back p hp).few)
    · exact h6.chg hc (noU8_one hr (by decide)) (fun j hj e => by subst e; exact h6.off hr (by decide) (by decide) (by decide) hj)
    · exact ((Chg.below hB).then h7 (fun j _ e => e)).then hc (fun j hj e => by omega)
    · intro j hj
      rcases h8 j hj with e | e
      · exact .inl e
      · exact .inr (by omega)
theorem post_ok {w A : World} {x d s k b half n : Nat} {hv sv lv : Value} {D : M.Dk} {l all : List M.Pk} (h : SessIs A x d s k b half n hv sv lv D l) (hA : A = w.alloc (.cells okC 23)) {W : World} (ht : TurnTo A x d s k half n hv sv lv D all W) : W.heap[w.heap.size]? = some (.cells okC 23 (0, 0)) := by
  obtain ⟨nb, lv', h1, h2, h3, h4, h5, h6, h7, h8⟩ := ht
  have hr : A.heap[w.heap.size]? = some (.cells okC 23 (0, 0)) := by rw [hA]; exact heap_alloc_new w _
  refine (h7.block _ (Array.getElem?_eq_some_iff.1 hr).1 (fun e => ?_)).trans hr
  rcases e with e | e | e
  · exact ty_ne hr h.store (by decide) e
  · exact ty_ne hr h.known (by decide) e
  · exact h.disk.off hr (by decide) (by decide) (by decide) e
theorem inst_kind {there : List M.Pk} {texts : List (List UInt8)} {room : Int} {f : M.Fa} (h : M.installedS there texts room = .inl f) : 1 ≤ f.kind ∧ f.kind ≤ 8 := by
  unfold M.installedS at h
  split at h
  · rename_i g hg
    cases h
    exact planned_kinds hg
  · split at h
    · cases h; decide
    · cases h
theorem sess_install {w : World} {x d s k b half n : Nat} {hv sv lv : Value} {D : M.Dk} {l : List M.Pk} (h : SessIs w x d s k b half n hv sv lv D l) (xv : Value) (texts : List ByteArray) (hx : TxtsIn w xv texts) (hxn : texts.length ≤ 10000) (hxs : ∀ t ∈ texts, t.size ≤ 8192) :
    Calls Tryz.prog 21 #[.pointer (some ⟨x, 0, none⟩), xv] w (TurnPost (M.installedS l (texts.map fun t => t.data.toList) (24 * ((n : Int) - 8))) w x d s k half n hv sv lv D) := by
  obtain ⟨a, c, exv⟩ := hx.form
  obtain ⟨z1, z2⟩ := h.size
  have hok : ∀ all, M.installedS l (texts.map fun t => t.data.toList) (24 * ((n : Int) - 8)) = .inr all → M.Tog all ∧ (M.sizeS all : Int) ≤ 24 * ((n : Int) - 8) := fun all e => by
    obtain ⟨_, _, _, _, _, q1, _, q2⟩ := M.installed_ok e h.tog.back h.tog.apart
    exact ⟨q1, q2⟩
  refine (xInstall_any x d s xv a texts.length c exv (M.installedS l (texts.map fun t => t.data.toList) (24 * ((n : Int) - 8))) (fun all e W => e = .returned .nilIface ∧ TurnTo (w.alloc (.cells okC 23)) x d s k half n hv sv lv D all W ∧ W.heap[w.heap.size]? = some (.cells okC 23 (0, 0))) w h.ready h.sess (fun f e => inst_kind e) ?_ (fun all e W hp => ⟨hp.1, hp.2.2⟩)).mono (fun e w' hp => turn_post h _ (fun all e => (hok all e).1) rfl hp)
  rintro A rfl
  have hB : Below w.heap.size w (w.alloc (.cells okC 23)) := (Below.refl _ w).alloc (Nat.le_refl _) _
  have hA := h.below hB
  refine sInstall_any s k b d half n l xv texts _ _ hA.ready hA.store hA.known ?_ h.n1 h.n2 hA.set (hx.below hB) hxn hxs (by omega) h.reads ?_
  · have := hA.disk.secsOf (by rw [hA.secs.1]; have := h.n1; omega)
    rwa [hA.secs.1] at this
  · intro all nb wx he hb hs
    obtain ⟨k1, k2⟩ := hok all he
    exact (change_post hA k1 k2 hb hs).mono (fun e w' hp => ⟨⟨_, hp.1⟩, hp.1, hp.2, post_ok hA rfl hp.2⟩)
end Go.Proofs.YtgnfknjopafngaaGreatDoor
namespace Go.Proofs.YtgnfknjopafngaaGreatDoor
open Go.RowKit Go.Maps
theorem Ready.lt {w : World} (h : Ready w) : 1 < w.heap.size := by
  obtain ⟨_, m, h2⟩ := h
  exact World.block_lt_of_cell? _ _ h2
theorem rest_empty {n : Nat} (h : 16 ≤ n) : M.Rest (emptyD n) n 0 (M.packed []) := ⟨rfl, rfl, rfl, M.lies_empty n h⟩
theorem sess_new (n : Int) (w : World) (hR : Ready w) : Calls Tryz.prog 20 #[.int .i64 n] w fun e w' => ∃ x d s k b hv sv, e = .returned (.tuple #[.pointer (some ⟨x, 0, none⟩), okV]) ∧ SessIs w' x d s k b 0 (sectorsN n) hv sv (.slice none 0 0) (emptyD (sectorsN n)) [] ∧ (∀ j, xFoot x d s k hv sv (.slice none 0 0) j → w.heap.size ≤ j) ∧ Below w.heap.size w w' := by
  obtain ⟨m1, m2⟩ := sectorsN_le n
  have hlt := hR.lt
  refine (new_full n w hR).mono ?_
  rintro e w' ⟨x, d, s, k, b, hv, sv, rfl, h1, h2, h3, h4, h5, g1, g2, g3, g4, hB⟩
  have hft : ∀ j, xFoot x d s k hv sv (.slice none 0 0) j → w.heap.size ≤ j := by
    rintro j (rfl | rfl | rfl | rfl | e | e | e)
    · exact g1
    · exact g3
    · exact g4
    · exact g2
    · have := (h5.held.lt j e).1; omega
    · have := (h5.seen.lt j e).1; omega
    · cases e
  exact ⟨x, d, s, k, b, hv, sv, rfl, ⟨hR.below hB, h1, h2, h3, h5, h4, m1, m2, Nat.zero_le _, rest_empty m1, by show (-1 : Int) ≤ _; omega, M.tog_nil, by show ((0 : Nat) : Int) ≤ _; omega, fun j hj => Nat.lt_of_lt_of_le hlt (hft j hj)⟩, hft, hB⟩
theorem strs_new (w : World) (T : ByteArray) : StrsIn (w.alloc (.cells #[.string T] 9)) (.slice (some ⟨w.heap.size, 0, none⟩) 1 1) [T] :=
  .inr ⟨w.heap.size, 1, rfl, Nat.le_refl _, Nat.zero_le _, ⟨by simp, fun _ => rfl⟩, fun j u hu => new_at w [.string T] _ j u hu⟩
def oneT : ByteArray := ⟨#[112, 97, 99, 107, 97, 103, 101, 32, 97, 32, 49, 10, 102, 105, 108, 101, 32, 120, 61, 49]⟩
def onePk : M.Pk := ⟨[97], [49], [], [], [⟨[120], [49]⟩]⟩
theorem one_inst : M.installedS [] [oneT.data.toList] (24 * ((20 : Int) - 8)) = .inr [onePk] := by rfl
theorem one_texts : M.textsS [onePk] = [oneT.data.toList] := by rfl
end Go.Proofs.YtgnfknjopafngaaGreatDoor
namespace Go.Proofs.YtgnfknjopafngaaGreatDoor
open Go.RowKit
set_option maxRecDepth 100000 in
set_option maxHeartbeats 2000000 in
theorem own_read (s : ByteArray) (w : World) (hs : s.size ≤ 8192) (hR : Ready w) : Calls Tryz.prog 34 #[.string s] w (OwnPost s w) := by
  have hM : MaxIs w := hR.2
  have cP := pRead_any s w hM hs
  cases hr : M.readS s.data.toList with
  | inl n =>
    have HR : Hid (readB s = .inl n) := hr
    replace cP : Calls Tryz.prog 55 #[.string s] w fun e w' => ∃ fb, e = .returned (.tuple #[.agg #[.string ⟨#[]⟩, .string ⟨#[]⟩, .slice none 0 0, .slice none 0 0, .slice none 0 0], .iface 112 (.pointer (some ⟨fb, 0, none⟩))]) ∧ FaultAt w' fb 1 0 n ⟨#[]⟩ ∧ Below w.heap.size w w' := cP.mono fun e w' h => by
      obtain ⟨h1, h2⟩ := h
      rw [hr] at h2
      obtain ⟨fb, h3, h4⟩ := h2
      exact ⟨fb, h3, h4, h1⟩
    clear hr hR hM
    go_enter Tryz.func34, Tryz.ntmps34
    go_wp2_with fail
    refine cP.mono ?_
    rintro e w1 ⟨fb, rfl, hF, hB⟩
    go_wp2
    go_ret2
    have hlt := hF.lt
    exact ⟨hB.alloc hB.size _, .inl ⟨n, fb, HR.out, rfl, (World.cell?_alloc_past _ _ _ hlt).trans hF.c0, (World.cell?_alloc_past _ _ _ hlt).trans hF.c1, (World.cell?_alloc_past _ _ _ hlt).trans hF.c2, (World.cell?_alloc_past _ _ _ hlt).trans hF.c3⟩⟩
  | inr p =>
    have HR : Hid (readB s = .inr p) := hr
    have hsh := readS_short hr
    replace cP : Calls Tryz.prog 55 #[.string s] w fun e w' => ∃ an cn ab cb af cf, e = .returned (.tuple #[.agg #[.string ⟨p.name.toArray⟩, .string ⟨p.ver.toArray⟩, .slice an p.needs.length cn, .slice ab p.bars.length cb, .slice af p.files.length cf], .nilIface]) ∧ PkVal w' p (.agg #[.string ⟨p.name.toArray⟩, .string ⟨p.ver.toArray⟩, .slice an p.needs.length cn, .slice ab p.bars.length cb, .slice af p.files.length cf]) ∧ Below w.heap.size w w' := cP.mono fun e w' h => by
      obtain ⟨h1, h2⟩ := h
      rw [hr] at h2
      obtain ⟨v, h3, h4⟩ := h2
      have h5 := h4
      obtain ⟨nv, bv, fv, rfl, g1, g2, g3⟩ := h5
      obtain ⟨an, cn, rfl⟩ := g1.form
      obtain ⟨ab, cb, rfl⟩ := g2.form
      obtain ⟨af, cf, rfl⟩ := g3.form
      exact ⟨an, cn, ab, cb, af, cf, h3, h4.val, h1⟩
    clear hr hR hM
    go_enter Tryz.func34, Tryz.ntmps34
    go_wp2_with fail
    refine cP.mono ?_
    rintro e w1 ⟨an, cn, ab, cb, af, cf, rfl, hV, hB⟩
    have cO := fun wx (hb : Below w1.heap.size w1 wx) => oneForm_any p _ wx (hV.belowL hb) hsh
    clear hV
    go_wp2_with fail
    refine (cO _ ((Below.refl _ w1).alloc (Nat.le_refl _) _)).mono ?_
    rintro e w2 ⟨T, rfl, hT, hB2⟩
    go_wp2
    go_ret2
    exact ⟨bt hB (bt ((Below.refl _ w1).alloc (Nat.le_refl _) _) hB2), .inr ⟨p, T, HR.out, rfl, hT⟩⟩
theorem xRead_any (s : ByteArray) (w : World) (hs : s.size ≤ 8192) (hR : Ready w) : Calls Tryz.prog 13 #[.string s] w (CodePost s w) := plain_read s w hR (fun w hR => own_read s w hs hR)
end Go.Proofs.YtgnfknjopafngaaGreatDoor
namespace Go.Proofs.YtgnfknjopafngaaGreatDoor
open Go.RowKit Go.Maps
set_option maxRecDepth 100000 in
set_option maxHeartbeats 8000000 in
theorem anchored_any (w : World) (hR : Ready w) : Calls Tryz.prog 18 #[] w fun e w' => e = .returned (.bool true) ∧ Below w.heap.size w w' := by
  have cN := sess_new 20 w hR
  rw [show sectorsN 20 = 20 by decide] at cN
  clear hR
  go_enter Tryz.func18, Tryz.ntmps18
  go_wp2_with fail
  refine cN.mono ?_
  rintro e w1 ⟨x, d, s, k, b, hv, sv, rfl, hS, hF, hB1⟩
  clear cN
  have hBA : Below w1.heap.size w1 (w1.alloc (.cells okC 23)) := (Below.refl _ w1).alloc (Nat.le_refl _) _
  have hBC : Below (w1.alloc (.cells okC 23)).heap.size (w1.alloc (.cells okC 23)) ((w1.alloc (.cells okC 23)).alloc (.cells #[.string oneT] 9)) := (Below.refl _ _).alloc (Nat.le_refl _) _
  have hSC := (hS.below hBA).below hBC
  have hst := strs_new (w1.alloc (.cells okC 23)) oneT
  have cI := sess_install hSC (.slice (some ⟨(w1.alloc (.cells okC 23)).heap.size, 0, none⟩) 1 1) [oneT] hst.txts (by decide) (by intro t ht; simp at ht; subst ht; decide)
  rw [show M.installedS [] ([oneT].map fun t => t.data.toList) (24 * (((20 : Nat) : Int) - 8)) = .inr [onePk] from one_inst] at cI
  replace cI : Calls Tryz.prog 21 #[.pointer (some ⟨x, 0, none⟩), .slice (some ⟨(w1.alloc (.cells okC 23)).heap.size, 0, none⟩) 1 1] ((w1.alloc (.cells okC 23)).alloc (.cells #[.string oneT] 9)) fun e w' => e = .returned okV ∧ ∃ nb, SessAt w' x d (.pointer (some ⟨s, 0, none⟩)) ∧ StoreAt w' s k nb ∧ SetIn w' nb [onePk] ∧ Below w.heap.size w w' := cI.mono fun e w' h => by
    obtain ⟨rfl, nb, lv', t1, t2, t3, t4, t5, t6, t7, t8⟩ := h
    exact ⟨rfl, nb, t2, t3, t5, Below.chg (bt hB1 (bt hBA hBC)) t7 (fun j hj => hF j (.inr hj)) (Nat.le_refl _)⟩
  rw [World.size_alloc] at cI
  unfold oneT at cI
  clear hst hSC hBC hBA hS hF
  go_wp2_with fail
  refine cI.mono ?_
  rintro e w2 ⟨rfl, nb, t1, t2, t3, hB2⟩
  clear cI
  have hBD : Below w2.heap.size w2 (w2.alloc (.cells okC 23)) := (Below.refl _ w2).alloc (Nat.le_refl _) _
  have cP := xPackages_any x d s k nb [onePk] (w2.alloc (.cells okC 23)) ((hBD.block x (Array.getElem?_eq_some_iff.1 t1).1).trans t1) ((hBD.block s (Array.getElem?_eq_some_iff.1 t2).1).trans t2) (t3.below hBD) (by decide) (fun p hp => by rw [List.mem_singleton.1 hp]; exact readP (s := oneT.data.toList) (by rfl)) (by decide)
  rw [one_texts] at cP
  have hr : (w2.alloc (.cells okC 23)).heap[w2.heap.size]? = some (.cells okC 23 (0, 0)) := heap_alloc_new w2 _
  have HR : Hid ((w2.alloc (.cells okC 23)).heap[w2.heap.size]? = some (.cells okC 23 (0, 0))) := hr
  have HBD : Hid (Below w2.heap.size w2 (w2.alloc (.cells okC 23))) := hBD
  clear t1 t2 t3 hr hBD
  go_wp2_with fail
  refine cP.mono ?_
  rintro e w3 ⟨a, c, rfl, ho, hB3⟩
  clear cP
  have hr3 : w3.heap[w2.heap.size]? = some (.cells okC 23 (0, 0)) := (hB3.block _ (by simp)).trans HR.out
  obtain ⟨z0, z1, z2, z3, zf⟩ := okC_cell hr3
  obtain ⟨g, rfl, hg, hcap, hc⟩ := ((RowIn.own ho).wide (Nat.zero_le _) (Nat.le_refl _)).cellAt (by decide)
  have q0 : w3.cell? ⟨g, 0, none⟩ = some (.string oneT) := hc 0 _ rfl
  unfold oneT at q0
  have HB4 : Hid (Below w.heap.size w w3) := bt hB2 (bt HBD.out hB3)
  clear ho hc hr3 hB3
  go_wp2
  go_ret
  exact ⟨rfl, HB4.out⟩
end Go.Proofs.YtgnfknjopafngaaGreatDoor
namespace Go.Proofs.YtgnfknjopafngaaGreatDoor
open Go.RowKit Go.Maps
set_option maxRecDepth 100000 in
set_option maxHeartbeats 8000000 in
theorem formed_law (s : ByteArray) (w : World) (hs : s.size ≤ 1000000000000000000) (hR : Ready w) : Calls Tryz.prog 6 #[.string s] w fun e w' => e = .returned (.bool true) ∧ Below w.heap.size w w' := by
  by_cases h4 : s.size ≤ 4096
  · have cA := anchored_any w hR
    have cR := fun wx (hb : Below w.heap.size w wx) => xRead_any s wx (by omega) (hR.below hb)
    have HR : Hid (Ready w) := hR
    clear hR
    cases hr : readB s with
    | inl n =>
      replace cR : ∀ wx, Below w.heap.size w wx → Calls Tryz.prog 13 #[.string s] wx fun e w' => e = .returned (.tuple #[.string ⟨#[]⟩, .agg #[.int .i64 1, .int .i64 0, .int .i64 n, .string ⟨#[]⟩]]) ∧ Below wx.heap.size wx w' := fun wx hb => (cR wx hb).mono fun e w' h => by
        obtain ⟨T, N, a, b, c, rfl, h1, h2, _⟩ := h
        obtain ⟨rfl, rfl, rfl, rfl, rfl⟩ := h2 n hr
        exact ⟨rfl, h1⟩
      clear hr
      go_enter Tryz.func6, Tryz.ntmps6
      go_wp2_with (first
        | (go_at_call 18; refine cA.mono ?_; rintro e w1 ⟨rfl, hB1⟩)
        | (go_at_call 13; refine (cR _ hB1).mono ?_; rintro e w2 ⟨rfl, hB2⟩))
      go_ret
      exact ⟨rfl, (bt hB1 hB2).alloc (bt hB1 hB2).size _⟩
    | inr p =>
      have hb : M.Back p := (M.read_print hr).2.1
      have hrp : ReadP p := readP hr
      obtain ⟨T, hT⟩ : ∃ T : ByteArray, T = ⟨(M.printS p).toArray⟩ := ⟨_, rfl⟩
      have hTd : T.data.toList = M.printS p := by rw [hT]
      have hTs : T.size = (M.printS p).length := by rw [← hTd]; exact (len_data T).symm
      have hle : T.size ≤ s.size := by
        have := (M.read_print hr).1
        rw [hTs, ← len_data s]
        exact this
      have hne : T.toList.isEmpty = false := printS_ne p T hTd
      have h300 : T.size ≤ 300 := by rw [hTs]; exact hrp.len
      have hrT : readB T = .inr p := by unfold readB; rw [hTd]; exact hb
      have cR2 : ∀ wx, Below w.heap.size w wx → Calls Tryz.prog 13 #[.string T] wx fun e w' => ∃ b c N, e = .returned (.tuple #[.string T, .agg #[.int .i64 (0 : Nat), .int .i64 b, .int .i64 c, .string N]]) ∧ Below wx.heap.size wx w' := fun wx hbw => (xRead_any T wx (by omega) (HR.out.below hbw)).mono fun e w' h => by
        obtain ⟨T', N, a, b, c, rfl, h1, _, h2⟩ := h
        obtain ⟨rfl, h3⟩ := h2 p hrT
        have e1 : T' = T := bytes_same (h3.trans hTd.symm)
        exact ⟨b, c, N, by rw [e1], h1⟩
      replace cR : ∀ wx, Below w.heap.size w wx → Calls Tryz.prog 13 #[.string s] wx fun e w' => ∃ b c N, e = .returned (.tuple #[.string T, .agg #[.int .i64 (0 : Nat), .int .i64 b, .int .i64 c, .string N]]) ∧ Below wx.heap.size wx w' := fun wx hbw => (cR wx hbw).mono fun e w' h => by
        obtain ⟨T', N, a, b, c, rfl, h1, _, h2⟩ := h
        obtain ⟨rfl, h3⟩ := h2 p hr
        have e1 : T' = T := bytes_same (h3.trans hTd.symm)
        exact ⟨b, c, N, by rw [e1], h1⟩
      clear hr hrT hTd hT hb hrp hTs
      go_enter Tryz.func6, Tryz.ntmps6
      go_wp2_with (first
        | (go_at_call 18; refine cA.mono ?_; rintro e w1 ⟨rfl, hB1⟩)
        | (go_at_call 13; first
            | (refine (cR _ hB1).mono ?_; rintro e w2 ⟨b2, c2, N2, rfl, hB2⟩; clear cR; have hB3 := (bt hB1 hB2).alloc (bt hB1 hB2).size (.cells #[.int .i64 (0 : Nat), .int .i64 b2, .int .i64 c2, .string N2] 23))
            | (refine (cR2 _ hB3).mono ?_; rintro e w4 ⟨b4, c4, N4, rfl, hB4⟩)))
      go_ret
      exact ⟨rfl, (bt hB3 hB4).alloc (bt hB3 hB4).size _⟩
  · have h5 : 4096 < s.size := by omega
    go_enter Tryz.func6, Tryz.ntmps6
    go_wp2
    go_ret
    exact ⟨rfl, Below.refl _ _⟩
end Go.Proofs.YtgnfknjopafngaaGreatDoor
namespace Go.Proofs.YtgnfknjopafngaaGreatDoor
namespace FormedProof
open Go.ChangeShapes Go.WideShapes Go.ChangeAt Go.RowKit
open LaidKit
open Go.ChangeMaps (open_string shut_string)
set_option maxRecDepth 100000 in
theorem lifted (os : Os) (started : os.Started) (H : Type) (enc : TypeId × Value → H) :
    ReturnsInHanded {} Tryz.checked os 6 .any (fun w args => (Rows.formedSpec.pre enc Tryz.prog Tryz.f6 Rows.formedRow.domain false w args ∧ laidMetH Tryz.prog Rows.formedRow.laid w) ∧ sizedMet enc Tryz.prog Tryz.f6 (OpenSpec.ofChange Rows.formedSpec) false w args)
      (Rows.formedSpec.post enc Tryz.prog Tryz.f6 false true false false) := by
  refine returnsInHanded_of_calls (C := Tryz.checked) own started (by kernel_rfl)
    (ChangeSpec.witness_shaped (enc := enc) (C := Tryz.checked) (os := os) (X := fun w _ => laidMetH Tryz.prog Rows.formedRow.laid w) false ((witH (World.holding Tryz.prog os ⟨#[], #[], []⟩)).layVars Tryz.prog dataL) #[.string ⟨#[]⟩] 8 (wit_os os)
      (World.shaped_of_ZipB (by kernel_rfl) (by kernel_rfl)) (by kernel_rfl) (by kernel_rfl) (by kernel_rfl) (wit_met os _)) ?_
  intro w0 tape inp _ hsh _ hok hpre _
  obtain ⟨_, _, _, fn', hfn', _, _, _, _, hval0'⟩ := hok
  obtain rfl : fn' = Tryz.f6 := Option.some.inj (hfn'.symm.trans Tryz.func6)
  obtain ⟨⟨⟨ds, gs, before, hw, _⟩, hx⟩, hz⟩ := hpre
  have hW := DataW.Whole.of_heap (w' := w0.forCall tape inp) (by rfl) hw
  have hsz := hz.weights hw
  have hL : laidMetH Tryz.prog L (w0.forCall tape inp) := laidMetH.of_heap (by rfl) hx
  have hI := maxLen_int hsh
  suffices hc : Calls Tryz.prog 6 inp.args (w0.forCall tape inp) fun e W' => ∃ v, e = .returned v ∧ Rows.formedSpec.post enc Tryz.prog Tryz.f6 false true false false (w0.forCall tape inp) inp.args v W' by
    refine hc.mono fun e W' ⟨v, he, hp⟩ => ?_
    subst he
    exact ChangeSpec.post_blind hp
  clear hz hx hw hsh
  revert hval0' hW hsz hL hI
  generalize inp.args = args
  generalize w0.forCall tape inp = W
  intro hval0 hW hsz hL hI
  have hval : ∀ (j : Nat) t v, Tryz.f6.params[j]? = some t → args[j]? = some v → Value.okWide Tryz.prog W .any w0.heap.size t v := hval0
  have hW' := hW
  obtain ⟨p, q, hA0, hV, rfl, _, _⟩ := hW
  have hA : DataW.TrodAll enc Tryz.prog W 0 (fun _ => true) true Tryz.f6.params.toList args.toList ds p := hA0
  rw [Tryz.params6] at hA hval hsz
  obtain ⟨v0, d0, rfl, rfl, h0⟩ := trodAll_one hA
  obtain ⟨rfl, rfl⟩ := trodVars_none hV
  obtain ⟨a, rfl, rfl, rfl, ha⟩ := open_string Tryz.underlying9 (hval 0 9 v0 rfl rfl) h0
  have sa : a.data.toList.length ≤ reachBytes := sized_string hsz (j := 0) (t := 9) rfl rfl
  have hr := reachBytes_lt
  rw [Array.length_toList, ByteArray.size_data] at sa
  have hE : Ready W := ⟨laid_err hL, hI⟩
  refine (formed_law a W (by omega) hE).mono fun e W' ⟨he, hb'⟩ => ?_
  subst he
  exact ⟨_, rfl, _, _, _, [], [], [], hW', trodAll_mk1 (shut_bool Tryz.underlying4 _), trodAll_mk1 (shut_string Tryz.underlying9 ha), rfl, hb'.frame _, fun h => by cases h⟩
theorem said : Rows.FormedSaid :=
  OpenClaim.holds_of_wide 6 Tryz.f6 rfl rfl rfl rfl rfl rfl rfl ⟨rfl, rfl, rfl, rfl, rfl⟩ rfl rfl rfl rfl rfl (by kernel_rfl) Tryz.func6 closed
    (of_decide_eq_true (by kernel_rfl)) (by unfold Func.isWrapper; first | (rw [if_pos (by decide +kernel)]; kernel_rfl) | (rw [if_neg (by decide +kernel)]; exact ⟨rfl, rfl⟩))
    (fun os started H enc _ => lifted os started H enc)
theorem plain (f : FuncId) (fn : Func) (hf : Tryz.pinned.checked.prog.funcNamed "parcels/parcelskeep.Formed" = some f) (hfn : Tryz.pinned.checked.prog.funcs[f]? = some fn) :
    true = Tryz.pinned.checked.prog.looks [] ∧ ∀ (j : Nat) t, fn.params[j]? = some t → Tryz.pinned.checked.prog.wantsStandIn t = false := by
  obtain rfl : f = 6 := Option.some.inj ((show Tryz.prog.funcNamed "parcels/parcelskeep.Formed" = some 6 by kernel_rfl).symm.trans hf) |>.symm
  obtain rfl : fn = Tryz.f6 := (Option.some.inj (Tryz.func6.symm.trans hfn)).symm
  refine ⟨by kernel_rfl, fun j t ht => ?_⟩
  rw [Tryz.params6] at ht
  have hm : t ∈ [9] := by simpa using Array.mem_of_getElem? ht
  obtain rfl : t = 9 := by simpa using hm
  exact (show Tryz.prog.wantsStandIn 9 = false by kernel_rfl)
end FormedProof
theorem formed_card : Rows.FormedCardSaid :=
  Claim7.holds_tied_plain_at .later [] _ _ _ _ FormedProof.said (fun _ h => by cases h) (by kernel_rfl) (fun _ h => by cases h) formed_row_tie rfl ⟨rfl, rfl⟩ (by kernel_rfl) rfl FormedProof.plain (by kernel_rfl)
end Go.Proofs.YtgnfknjopafngaaGreatDoor
