import Derived.Test.YtgnfknjopafngaaGreatDoorKkTwo
import Derived.Test.YtgnfknjopafngaaGreatDoorKkaq
import Derived.Test.YtgnfknjopafngaaGreatDoorKkar
import Derived.Carry
namespace Go.Proofs.YtgnfknjopafngaaGreatDoor
open Go.RowKit Go.Maps
theorem Held.of {l : List M.Pk} {n : Nat} (h : M.Tog l) (hr : (M.sizeS l : Int) ≤ 24 * ((n : Int) - 8)) (hn : n ≤ 256) : Held l := by
  have := M.size_long h.back
  exact ⟨h.back, h.apart, by omega, by omega, fun p hp => (h.back p hp).few⟩
theorem DiskIs.noStr {w : World} {d : Nat} {hv sv lv : Value} {D : M.Dk} (h : DiskIs w d hv sv lv D) (h1 : 16 ≤ D.held.length) (h2 : 16 ≤ D.seen.length) : NoStr (dFoot d hv sv lv) w := fun j hj => by
  rcases (h.noText h1 h2 j hj).2.1 with ⟨c, f, e⟩ | e
  · exact absurd hj (h.off e (by decide) (by decide) (by decide))
  · exact e
structure Dn (W : World) (x d n : Nat) (s0 hv sv lv : Value) (D : M.Dk) (Q : List M.Pk → Prop) : Prop where
  ready : Ready W
  sess : SessAt W x d s0
  disk : DiskIs W d hv sv lv D
  n1 : 16 ≤ n
  n2 : n ≤ 256
  late : ∀ p ∈ D.late, p.1 < n
  few : D.late.length ≤ n
  seen : D.seen.length = n
  held : D.held.length = n
  high : ∀ k, sFoot x d hv sv lv k → 1 < k
  lies : ∀ sel : Nat → Bool, ∃ half l, Q l ∧ Held l ∧ M.Lies (M.putSome sel 0 D.late D.held) n half (M.packed l)
theorem Dn.below {W W' : World} {x d n : Nat} {s0 hv sv lv : Value} {D : M.Dk} {Q : List M.Pk → Prop} (h : Dn W x d n s0 hv sv lv D Q) (hb : Below W.heap.size W W') : Dn W' x d n s0 hv sv lv D Q :=
  { h with
    ready := h.ready.below hb
    sess := (hb.block x (Array.getElem?_eq_some_iff.1 h.sess).1).trans h.sess
    disk := h.disk.below hb }
theorem Dn.noStr {W : World} {x d n : Nat} {s0 hv sv lv : Value} {D : M.Dk} {Q : List M.Pk → Prop} (h : Dn W x d n s0 hv sv lv D Q) : NoStr (sFoot x d hv sv lv) W := by
  rintro j (rfl | e) s e2
  · rw [h.sess.cell0] at e2
    cases e2
  · exact h.disk.noStr (by rw [h.held]; exact h.n1) (by rw [h.seen]; exact h.n1) j e s e2
theorem Dn.lt {W : World} {x d n : Nat} {s0 hv sv lv : Value} {D : M.Dk} {Q : List M.Pk → Prop} (h : Dn W x d n s0 hv sv lv D Q) {B : Nat} (hB : ∀ j, sFoot x d hv sv lv j → B ≤ j) : B ≤ W.heap.size := by
  have := hB x (.inl rfl)
  have := (Array.getElem?_eq_some_iff.1 h.sess).1
  omega
theorem SessIs.dn {W : World} {x d s k b half n : Nat} {hv sv lv : Value} {D : M.Dk} {l : List M.Pk} (h : SessIs W x d s k b half n hv sv lv D l) (Q : List M.Pk → Prop) (hQ : Q l) : Dn W x d n (.pointer (some ⟨s, 0, none⟩)) hv sv lv D Q := by
  obtain ⟨h1, h2⟩ := h.secs
  refine ⟨h.ready, h.sess, h.disk, h.n1, h.n2, ?_, ?_, h1, h2, ?_, ?_⟩
  · rw [h.rest.late]
    intro p hp
    cases hp
  · rw [h.rest.late]
    exact Nat.zero_le _
  · rintro j (e | e)
    · exact h.high j (.inl e)
    · exact h.high j (.inr (.inr (.inr e)))
  · intro sel
    refine ⟨half, l, hQ, Held.of h.tog h.room h.n2, ?_⟩
    rw [h.rest.late, h.rest.same]
    exact h.rest.lies
theorem sess_cut {w : World} {x d s k b half n : Nat} {hv sv lv : Value} {D : M.Dk} {l : List M.Pk} (h : SessIs w x d s k b half n hv sv lv D l) (m : Int) (hm : m ≤ 9223372036854775807) :
    Calls Tryz.prog 31 #[.pointer (some ⟨x, 0, none⟩), .int .i64 m] w fun e w' => (∃ v, e = .returned v) ∧ SessIs w' x d s k b half n hv sv lv { D with left := max m (-1) } l ∧ Chg (xFoot x d s k hv sv lv) w w' := by
  refine (sCut_any x d m _ hv sv lv D w h.sess h.disk).mono ?_
  rintro e w' ⟨he, hD, hg⟩
  have hc : Chg (fun j => j = d) w w' := Chg.grown hg (fun j e _ => (Option.some.inj e).symm)
  have hnt : NoText (fun j => j = d) w := fun j e => by subst e; exact h.noText j (.inr (.inr (.inr (.inl rfl))))
  have hxd : x ≠ d := ty_ne h.sess h.disk.blk (by decide)
  have hsd : s ≠ d := ty_ne h.store h.disk.blk (by decide)
  have hkd : k ≠ d := ty_ne h.known h.disk.blk (by decide)
  refine ⟨he, ⟨h.ready.chg hc (fun j e => by subst e; exact h.high j (.inr (.inr (.inr (.inl rfl))))), h.sess.chg hc hxd, (hc.block s (Array.getElem?_eq_some_iff.1 h.store).1 hsd).trans h.store, (hc.block k (Array.getElem?_eq_some_iff.1 h.known).1 hkd).trans h.known, hD, h.set.chg hc hnt (fun p hp => (h.tog.back p hp).few), h.n1, h.n2, h.ho, ⟨h.rest.alive, h.rest.late, h.rest.same, h.rest.lies⟩, ?_, h.tog, h.room, h.high⟩, hc.weak (fun j _ e => .inr (.inr (.inr (.inl e))))⟩
  show max m (-1) ≤ _
  omega
theorem broken_held {D : M.Dk} {n : Nat} {P : Nat → List UInt8 → Prop} (h : M.Broken D n P) : D.held.length = n := by
  obtain ⟨half, t, _, hl⟩ := h.lies (fun _ => true)
  have := hl.len
  rwa [M.putSome_len] at this
def DnTo (l all : List M.Pk) (B : Nat) (x n : Nat) (w w' : World) : Prop := ∃ d s0 hv sv lv D, Dn w' x d n s0 hv sv lv D (fun m => m = all ∨ (D.dead = true ∧ m = l)) ∧ (∀ j, sFoot x d hv sv lv j → B ≤ j) ∧ Ar B w w'
theorem dn_install {w : World} {x d s k b half n : Nat} {hv sv lv : Value} {D : M.Dk} {l : List M.Pk} (h : SessIs w x d s k b half n hv sv lv D l) (xv : Value) (texts : List ByteArray) (hx : TxtsIn w xv texts) (hxn : texts.length ≤ 10000) (hxs : ∀ t ∈ texts, t.size ≤ 8192) (B : Nat) (hB : ∀ j, xFoot x d s k hv sv lv j → B ≤ j) :
    Calls Tryz.prog 21 #[.pointer (some ⟨x, 0, none⟩), xv] w fun e w' => (∃ f : M.Fa, e = .returned (faV f)) ∧ DnTo l (afterI l (M.installedS l (texts.map fun t => t.data.toList) (24 * ((n : Int) - 8)))) B x n w w' := by
  have hBw : B ≤ w.heap.size := by
    have := hB x (.inl rfl)
    have := (Array.getElem?_eq_some_iff.1 h.sess).1
    omega
  have hfoot : ∀ j, sFoot x d hv sv lv j → B ≤ j := fun j hj => hB j (by
    rcases hj with e | e
    · exact .inl e
    · exact .inr (.inr (.inr e)))
  refine (sess_install h xv texts hx hxn hxs).mono fun e w' hp => ?_
  cases hR : M.installedS l (texts.map fun t => t.data.toList) (24 * ((n : Int) - 8)) with
  | inl f =>
    rw [hR] at hp
    exact ⟨⟨f, hp.1⟩, d, _, hv, sv, lv, D, (h.below hp.2).dn _ (.inl rfl), hfoot, ⟨hp.2.mono hBw, fun _ _ e => e.below hp.2⟩⟩
  | inr all =>
    rw [hR] at hp
    obtain ⟨_, _, _, _, _, q1, _, q2⟩ := M.installed_ok hR h.tog.back h.tog.apart
    obtain ⟨he, nb, lv', h1, h2, h3, h4, h5, h6, h7, h8⟩ := hp
    obtain ⟨hf1, hf2⟩ := M.packed_fits q1.back q1.apart h.n1 h.n2 q2
    have hfoot' : ∀ j, sFoot x d hv sv lv' j → sFoot x d hv sv lv j ∨ w.heap.size ≤ j := by
      rintro j (e | e | e | e | e)
      · exact .inl (.inl e)
      · exact .inl (.inr (.inl e))
      · exact .inl (.inr (.inr (.inl e)))
      · exact .inl (.inr (.inr (.inr (.inl e))))
      · rcases h8 j e with e | e
        · exact .inl (.inr (.inr (.inr (.inr e))))
        · exact .inr e
    have hB' : ∀ j, sFoot x d hv sv lv' j → B ≤ j := fun j hj => by
      rcases hfoot' j hj with e | e
      · exact hfoot j e
      · omega
    have hlt := h.ready.lt
    have hhi : ∀ j, sFoot x d hv sv lv' j → 1 < j := fun j hj => by
      rcases hfoot' j hj with e | e
      · rcases e with e | e
        · exact h.high j (.inl e)
        · exact h.high j (.inr (.inr (.inr e)))
      · omega
    have hAr : Ar B w w' := by
      have hc : Chg (xFoot x d s k hv sv lv) w w' := h7.weak (fun j _ e => .inr e)
      exact Ar.of hc h.mild hBw hB
    have hH := Held.of q1 q2 h.n2
    have hH0 := Held.of h.tog h.room h.n2
    refine ⟨⟨M.okFa, he⟩, d, .pointer (some ⟨s, 0, none⟩), hv, sv, lv', D.save n (1 - half) (M.packed all), ?_, hB', hAr⟩
    rcases M.save_ok h.rest (by have := h.n1; omega) hf1 hf2 with r | r
    · have e1 := r.lies.len
      have e2 := r.same
      refine ⟨h1, h2, h6, h.n1, h.n2, ?_, ?_, e1, by rw [e2]; exact e1, hhi, fun sel => ?_⟩
      · rw [r.late]
        intro p hp
        cases hp
      · rw [r.late]
        exact Nat.zero_le _
      · refine ⟨1 - half, all, .inl rfl, hH, ?_⟩
        rw [r.late, r.same]
        exact r.lies
    · refine ⟨h1, h2, h6, h.n1, h.n2, fun p hp => (r.size p hp).1, r.few, r.seen, broken_held r, hhi, fun sel => ?_⟩
      obtain ⟨a, t, ⟨rfl, rfl⟩ | ⟨rfl, rfl⟩, hl⟩ := r.lies sel
      · exact ⟨_, l, .inr ⟨r.dead, rfl⟩, hH0, hl⟩
      · exact ⟨_, all, .inl rfl, hH, hl⟩
def ReTo (Q : List M.Pk → Prop) (B : Nat) (x d n : Nat) (hv sv : Value) (w w' : World) : Prop := Ar B w w' ∧ ∃ m s k b D', Q m ∧ Held m ∧ Dn w' x d n (.pointer (some ⟨s, 0, none⟩)) hv sv (.slice none 0 0) D' (fun z => z = m) ∧ StoreAt w' s k b ∧ SetIn w' b m ∧ (∀ j, sFoot x d hv sv (.slice none 0 0) j → B ≤ j)
theorem dn_reopen {w : World} {x d n : Nat} {s0 hv sv lv : Value} {D : M.Dk} {Q : List M.Pk → Prop} (h : Dn w x d n s0 hv sv lv D Q) (mask after : Int) (B : Nat) (hB : ∀ j, sFoot x d hv sv lv j → B ≤ j) :
    Calls Tryz.prog 33 #[.pointer (some ⟨x, 0, none⟩), .int .i64 mask, .int .i64 after] w fun e w' => e = .returned okV ∧ ReTo Q B x d n hv sv w w' := by
  have hsub : ∀ j, sFoot x d hv sv (.slice none 0 0) j → sFoot x d hv sv lv j := by
    rintro j (e | e | e | e | e)
    · exact .inl e
    · exact .inr (.inl e)
    · exact .inr (.inr (.inl e))
    · exact .inr (.inr (.inr (.inl e)))
    · cases e
  refine (reopen_any x d n mask after s0 hv sv lv D Q w h.ready h.sess h.disk h.n1 h.n2 (by rw [h.held]; exact h.late) (by have := h.few; have := h.n2; omega) h.seen h.held h.high (fun sel _ => h.lies sel)).mono ?_
  rintro e w' ⟨s, k, b, half, l, H, rfl, h1, h2, h3, h4, hQ, hH, h5, h6, h7, h8, h9⟩
  refine ⟨rfl, ⟨⟨h9.os, h9.tape, h9.output, h9.size, fun j hj => h9.block j (by have := h.lt hB; omega) (fun e => by have := hB j e; omega)⟩, fun _ _ e => strs_chg e h9 h.noStr⟩, l, s, k, b, _, hQ, hH, ⟨h.ready.chg h9 h.high, h1, h5, h.n1, h.n2, fun p hp => (by cases hp), Nat.zero_le _, h6.len, h6.len, fun j hj => h.high j (hsub j hj), fun sel => ⟨half, l, rfl, hH, h6⟩⟩, h2, h4, fun j hj => hB j (hsub j hj)⟩
theorem dn_packs {w : World} {x d s k b : Nat} {m : List M.Pk} (h1 : SessAt w x d (.pointer (some ⟨s, 0, none⟩))) (h2 : StoreAt w s k b) (h3 : SetIn w b m) (hH : Held m) :
    Calls Tryz.prog 22 #[.pointer (some ⟨x, 0, none⟩)] w fun e w' => ∃ a c, e = .returned (.tuple #[.slice a m.length c, .bool true]) ∧ StrsIn w' (.slice a m.length c) (txsB m) ∧ Below w.heap.size w w' := by
  refine (xPackages_any x d s k b m w h1 h2 h3 (by have := hH.few; omega) (fun p hp => ReadP.of (hH.back p hp)) (by have := hH.size; omega)).mono ?_
  rintro e w' ⟨a, c, rfl, ho, hB⟩
  rw [← M.texts_len] at ho
  exact ⟨a, c, rfl, by rw [← M.texts_len]; exact strs_own ho, hB⟩
theorem dn_lost {w : World} {x d n : Nat} {s0 hv sv lv : Value} {D : M.Dk} {Q : List M.Pk → Prop} (h : Dn w x d n s0 hv sv lv D Q) :
    Calls Tryz.prog 32 #[.pointer (some ⟨x, 0, none⟩)] w fun e w' => e = .returned (.bool D.dead) ∧ w' = w := sLost_any x d s0 hv sv lv D w h.sess h.disk
theorem f_cut {w : World} {F : Nat → Prop} {x n : Nat} {l : List M.Pk} (h : XF w F x n l) (m : Int) (hm : m ≤ 9223372036854775807) (B : Nat) (hB : ∀ j, F j → B ≤ j) :
    Calls Tryz.prog 31 #[.pointer (some ⟨x, 0, none⟩), .int .i64 m] w fun e w' => (∃ v, e = .returned v) ∧ Ar B w w' ∧ ∃ d s k b half hv sv lv D, SessIs w' x d s k b half n hv sv lv D l ∧ ∀ j, xFoot x d s k hv sv lv j → B ≤ j := by
  have hmild := h.mild
  obtain ⟨d, s, k, b, half, hv, sv, lv, D, h1, h2, h3⟩ := h
  refine (sess_cut h1 m hm).mono ?_
  rintro e w' ⟨he, hs, hc⟩
  have hc' : Chg F w w' := hc.weak (fun j _ e => (h3 j).2 e)
  refine ⟨he, Ar.of hc' hmild ?_ hB, d, s, k, b, half, hv, sv, lv, _, hs, fun j hj => hB j ((h3 j).2 hj)⟩
  have := hB x ((h3 x).2 (.inl rfl))
  have := (Array.getElem?_eq_some_iff.1 h1.sess).1
  omega
end Go.Proofs.YtgnfknjopafngaaGreatDoor
namespace Go.Proofs.YtgnfknjopafngaaGreatDoor
open Go.RowKit Go.Maps
set_option maxRecDepth 100000 in
set_option maxHeartbeats 16000000 in
theorem survives_law (sectors : Int) (fv tv : Value) (first then_ : List ByteArray) (kk mask again : Int) (w : World) (hR : Ready w) (hf : TxtsIn w fv first) (ht : TxtsIn w tv then_) (f1 : first.length ≤ 1000000000000000000) (f2 : ∀ t ∈ first, t.size ≤ 1000000000000000000) (t1 : then_.length ≤ 1000000000000000000) (t2 : ∀ t ∈ then_, t.size ≤ 1000000000000000000)
    (g1 : -9223372036854775808 ≤ kk) (g2 : kk ≤ 9223372036854775807) (g3 : -9223372036854775808 ≤ mask) (g4 : mask ≤ 9223372036854775807) (g5 : -9223372036854775808 ≤ again) (g6 : again ≤ 9223372036854775807) :
    Calls Tryz.prog 12 #[.int .i64 sectors, fv, tv, .int .i64 kk, .int .i64 mask, .int .i64 again] w fun e w' => e = .returned (.bool true) ∧ Below w.heap.size w w' := by
  have cS1 := ksmall_any fv first w hf f1 f2
  have cS2 := fun wx (hb : Below w.heap.size w wx) => ksmall_any tv then_ wx (ht.below hb) t1 t2
  obtain ⟨af, cf, ef⟩ := hf.form
  obtain ⟨at', ct, et⟩ := ht.form
  subst ef et
  have HF : Hid (TxtsIn w (.slice af first.length cf) first) := hf
  have HT : Hid (TxtsIn w (.slice at' then_.length ct) then_) := ht
  have HR : Hid (Ready w) := hR
  clear hf ht hR f1 f2 t1 t2
  cases hs1 : smallB first with
  | false =>
    rw [hs1] at cS1
    go_enter Tryz.func12, Tryz.ntmps12
    go_wp2_with fail
    refine cS1.mono ?_
    rintro e w1 ⟨rfl, hB1⟩
    go_wp2_with fail
    refine (cS2 _ hB1).mono ?_
    rintro e w2 ⟨rfl, hB2⟩
    have hB3 := bt hB1 hB2
    go_wp2
    go_ret
    exact ⟨rfl, hB3⟩
  | true =>
    rw [hs1] at cS1
    cases hs2 : smallB then_ with
    | false =>
      rw [hs2] at cS2
      go_enter Tryz.func12, Tryz.ntmps12
      go_wp2_with fail
      refine cS1.mono ?_
      rintro e w1 ⟨rfl, hB1⟩
      go_wp2_with fail
      refine (cS2 _ hB1).mono ?_
      rintro e w2 ⟨rfl, hB2⟩
      have hB3 := bt hB1 hB2
      go_wp2
      go_ret
      exact ⟨rfl, hB3⟩
    | true =>
      rw [hs2] at cS2
      obtain ⟨u1, u2⟩ := small_sz hs1
      obtain ⟨v1, v2⟩ := small_sz hs2
      have HU : Hid (∀ t ∈ first, t.size ≤ 8192) := fun t h => Nat.le_trans (u2 t h) (by decide)
      have HVz : Hid (∀ t ∈ then_, t.size ≤ 8192) := fun t h => Nat.le_trans (v2 t h) (by decide)
      have cA := fun wx (hb : Below w.heap.size w wx) => anchored_any wx (HR.out.below hb)
      have cN := fun wx (hr : Ready wx) => f_new sectors wx hr
      have cK1 := fun wx => kpick_any kk 40 wx (by decide) (by decide) g1 g2
      have cK2 := fun wx => kpick_any again 20 wx (by decide) (by decide) g5 g6
      generalize hn : sectorsN sectors = n at cN
      clear hs1 hs2 u2 v2 hn g1 g2 g5 g6
      go_enter Tryz.func12, Tryz.ntmps12
      go_wp2_with fail
      refine cS1.mono ?_
      rintro e w1 ⟨rfl, hB1⟩
      go_wp2_with fail
      refine (cS2 _ hB1).mono ?_
      rintro e w2 ⟨rfl, hB2⟩
      have hB3 := bt hB1 hB2
      clear cS1 cS2
      go_wp2_with fail
      refine (cA _ hB3).mono ?_
      rintro e w3 ⟨rfl, hB4⟩
      have hB5 := bt hB3 hB4
      clear hB1 hB2 hB3 hB4 cA
      have cN1 := cN w3 (HR.out.below hB5)
      go_wp2_with fail
      refine cN1.mono ?_
      rintro e w4 ⟨x, F, rfl, hX, hFl, hB6⟩
      have hbF : (w4.alloc (.cells okC 23)).heap[w4.heap.size]? = some (.cells okC 23 (0, 0)) := heap_alloc_new w4 _
      have hBA : Below w4.heap.size w4 (w4.alloc (.cells okC 23)) := (Below.refl _ w4).alloc (Nat.le_refl _) _
      have hXA := hX.below hBA
      have cN2 := cN _ hXA.ready
      have HXA : Hid (XF (w4.alloc (.cells okC 23)) F x n []) := hXA
      have HFl : Hid (∀ j, F j → w3.heap.size ≤ j) := hFl
      have HbF : Hid ((w4.alloc (.cells okC 23)).heap[w4.heap.size]? = some (.cells okC 23 (0, 0))) := hbF
      have HBA : Hid (Below w3.heap.size w3 (w4.alloc (.cells okC 23))) := bt hB6 hBA
      have hs34 := hB6.size
      clear cN1 cN hX hXA hFl hbF hBA hB6
      go_wp2_with fail
      refine cN2.mono ?_
      rintro e w5 ⟨y, G, rfl, hY, hGl, hB7⟩
      clear cN2
      have hsz4 : (w4.alloc (.cells okC 23)).heap.size = w4.heap.size + 1 := by simp
      obtain ⟨A5, hA5⟩ : ∃ A5, A5 = w5.alloc (.cells okC 23) := ⟨_, rfl⟩
      have hBA5 : Below w5.heap.size w5 A5 := by rw [hA5]; exact (Below.refl _ w5).alloc (Nat.le_refl _) _
      have HA5 : Hid (A5 = w5.alloc (.cells okC 23)) := hA5
      have hb5 : A5.heap[w5.heap.size]? = some (.cells okC 23 (0, 0)) := by rw [hA5]; exact heap_alloc_new w5 _
      have hbF5 : A5.heap[w4.heap.size]? = some (.cells okC 23 (0, 0)) := ((bt hB7 hBA5).block _ (Array.getElem?_eq_some_iff.1 HbF.out).1).trans HbF.out
      have hX5 : XF A5 F x n [] := HXA.out.below (bt hB7 hBA5)
      have hY5 : XF A5 G y n [] := hY.below hBA5
      have hdis : ∀ j, G j → ¬ F j := fun j hj hf => by have := hGl j hj; have := HXA.out.lt hf; omega
      have hB35 : Below w3.heap.size w3 A5 := HBA.out.trans ((bt hB7 hBA5).mono HBA.out.size)
      have HBF : Hid (A5.heap[w4.heap.size]? = some (.cells okC 23 (0, 0)) ∧ A5.heap[w5.heap.size]? = some (.cells okC 23 (0, 0))) := ⟨hbF5, hb5⟩
      obtain ⟨z0, z1, z2, z3, zf⟩ := okC_cell hbF5
      obtain ⟨y0, y1, y2, y3, yf⟩ := okC_cell hb5
      have HX5 : Hid (XF A5 F x n []) := hX5
      have HY5 : Hid (XF A5 G y n []) := hY5
      have HGl : Hid (∀ j, G j → w3.heap.size ≤ j) := fun j hj => by have := hGl j hj; have := HBA.out.size; omega
      have HDis : Hid (∀ j, G j → ¬ F j) := hdis
      have HB35 : Hid (Below w3.heap.size w3 A5) := hB35
      have hne45 : w4.heap.size ≠ w5.heap.size := by have := hB7.size; omega
      have hs45 : w4.heap.size ≤ w5.heap.size := by have := hB7.size; omega
      have hhi4 : 1 < w4.heap.size := by have := (HR.out.below hB5).lt; omega
      have hhi5 : 1 < w5.heap.size := by have := hB7.size; omega
      clear hX5 hY5 hGl hdis hB35 hbF5 hb5 hY hBA5 hB7 hA5 HXA HbF HBA
      have HLow : Hid (∀ W, Below w3.heap.size w3 W → TxtsIn W (.slice af first.length cf) first ∧ TxtsIn W (.slice at' then_.length ct) then_ ∧ Below w.heap.size w W) := fun W hb => ⟨HF.out.below (bt hB5 hb), HT.out.below (bt hB5 hb), bt hB5 hb⟩
      have hT5 : Tw A5 w3.heap.size w4.heap.size w5.heap.size x y n F G [] [] M.okFa M.okFa := Tw.mk HX5.out HY5.out HDis.out HBF.out.1 HBF.out.2 hne45 hhi4 hhi5 (by omega) (by omega) HFl.out HGl.out
      obtain ⟨jf, hjf⟩ : ∃ jf, jf = w4.heap.size := ⟨_, rfl⟩
      obtain ⟨jg, hjg⟩ : ∃ jg, jg = w5.heap.size := ⟨_, rfl⟩
      rw [← hjf, ← hjg] at hT5
      have cI1 := f_install hT5.x (.slice af first.length cf) first (HLow.out _ HB35.out).1 (by omega) HU.out
      have cI2 := fun W F' l' (hx : Tw W w3.heap.size jf jg x y n F' G l' [] M.okFa M.okFa) (ht : TxtsIn W (.slice af first.length cf) first) => f_install hx.y (.slice af first.length cf) first ht (by omega) HU.out
      generalize M.installedS [] (first.map fun t => t.data.toList) (24 * ((n : Int) - 8)) = Ri at cI1 cI2
      unfold FPost faV at cI1 cI2
      have HT5 : Hid (Tw A5 w3.heap.size jf jg x y n F G [] [] M.okFa M.okFa) := hT5
      clear hT5 HX5 HY5 HDis HBF HFl HGl HR hhi4 hhi5 hne45 hs45 hs34 hsz4 HF HT
      rw [HA5.out] at z0 z1 z2 z3 y0 y1 y2 y3
      go_wp2_with fail
      rw [← HA5.out]
      refine cI1.mono ?_
      rintro e w6 ⟨rfl, F', hx6, hc6, hf6⟩
      obtain ⟨hT6, hA6⟩ := HT5.out.turnX hx6 hc6 hf6
      have HB6 : Hid (Below w3.heap.size w3 w6) := HB35.out.trans hA6.low
      have cI3 := cI2 w6 F' _ hT6 (HLow.out _ HB6.out).1
      have HT6 : Hid (Tw w6 w3.heap.size jf jg x y n F' G (afterI [] Ri) [] M.okFa M.okFa) := hT6
      clear cI1 cI2 hx6 hc6 hf6 hT6 hA6 HT5 HB35 HA5 z0 z1 z2 z3 zf y0 y1 y2 y3 yf
      go_wp2_with fail
      refine cI3.mono ?_
      rintro e w7 ⟨rfl, G', hx7, hc7, hf7⟩
      obtain ⟨hT7, hA7⟩ := HT6.out.swap.turnX hx7 hc7 hf7
      have hT7' := hT7.swap
      have HB7 : Hid (Below w3.heap.size w3 w7) := HB6.out.trans hA7.low
      generalize afterI [] Ri = l0 at hT7'
      have cP1 := f_packs hT7'.x
      have h600 := hT7'.x.tog.2
      have cI4 := fun W (hx : Tw W w3.heap.size jf jg x y n F' G' l0 l0 M.okFa M.okFa) (ht : TxtsIn W (.slice at' then_.length ct) then_) => f_install hx.y (.slice at' then_.length ct) then_ ht (by omega) HVz.out
      have cI5 := fun W d s k b half hv sv lv D (hx : SessIs W x d s k b half n hv sv lv D l0) (hB : ∀ j, xFoot x d s k hv sv lv j → w3.heap.size ≤ j) (ht : TxtsIn W (.slice at' then_.length ct) then_) => dn_install hx (.slice at' then_.length ct) then_ ht (by omega) HVz.out w3.heap.size hB
      generalize M.installedS l0 (then_.map fun t => t.data.toList) (24 * ((n : Int) - 8)) = Rj at cI4 cI5
      unfold FPost faV at cI4
      unfold faV at cI5
      have HT7 : Hid (Tw w7 w3.heap.size jf jg x y n F' G' l0 l0 M.okFa M.okFa) := hT7'
      clear cI3 hx7 hc7 hf7 hT7 hA7 HT6 HB6 hT7'
      go_wp2_with fail
      refine cP1.mono ?_
      rintro e w8 ⟨a8, c8, rfl, hs8, hB8⟩
      have hT8 := HT7.out.below hB8
      have HB8 : Hid (Below w3.heap.size w3 w8) := HB7.out.trans (hB8.mono HB7.out.size)
      have cI6 := cI4 w8 hT8 (HLow.out _ HB8.out).2.1
      have HT8 : Hid (Tw w8 w3.heap.size jf jg x y n F' G' l0 l0 M.okFa M.okFa) := hT8
      have HS8 : Hid (StrsIn w8 (.slice a8 l0.length c8) (txsB l0)) := hs8
      clear cP1 cI4 hB8 hT8 hs8 HT7 HB7
      go_wp2_with fail
      refine cI6.mono ?_
      rintro e w9 ⟨rfl, G2, hx9, hc9, hf9⟩
      obtain ⟨hT9, hA9⟩ := HT8.out.swap.turnX hx9 hc9 hf9
      have hT9' := hT9.swap
      have cP2 := f_packs hT9'.y
      have h601 := hT9'.y.tog.2
      have HT9 : Hid (Tw w9 w3.heap.size jf jg x y n F' G2 l0 (afterI l0 Rj) M.okFa M.okFa) := hT9'
      have HB9 : Hid (Below w3.heap.size w3 w9) := HB8.out.trans hA9.low
      have HS9 : Hid (StrsIn w9 (.slice a8 l0.length c8) (txsB l0)) := hA9.strs _ _ HS8.out
      generalize afterI l0 Rj = l1 at cP2 h601 HT9 cI5
      clear cI6 hx9 hc9 hf9 hT9 hA9 hT9' HT8 HB8 HS8
      go_wp2_with fail
      refine cP2.mono ?_
      rintro e w10 ⟨a10, c10, rfl, hs10, hB10⟩
      have HX10 : Hid (XF w10 F' x n l0 ∧ ∀ j, F' j → w3.heap.size ≤ j) := ⟨(HT9.out.below hB10).x, HT9.out.FB⟩
      have HS10 : Hid (StrsIn w10 (.slice a8 l0.length c8) (txsB l0) ∧ StrsIn w10 (.slice a10 l1.length c10) (txsB l1)) := ⟨HS9.out.below hB10, hs10⟩
      have HB10 : Hid (Below w3.heap.size w3 w10) := HB9.out.trans (hB10.mono HB9.out.size)
      clear cP2 hs10 hB10 HT9 HB9 HS9
      go_wp2_with fail
      refine (cK1 _).mono ?_
      rintro e w11 ⟨m, hm, rfl, e11⟩
      obtain rfl := e11
      have cC := f_cut HX10.out.1 m (by omega) w3.heap.size HX10.out.2
      clear cK1
      go_wp2_with fail
      refine cC.mono ?_
      rintro e w12 ⟨⟨v12, rfl⟩, hA12, d, s, k, b, half, hv, sv, lv, D, hS12, hF12⟩
      have HB12 : Hid (Below w3.heap.size w3 w12) := HB10.out.trans hA12.low
      have HS12 : Hid (StrsIn w12 (.slice a8 l0.length c8) (txsB l0) ∧ StrsIn w12 (.slice a10 l1.length c10) (txsB l1)) := ⟨hA12.strs _ _ HS10.out.1, hA12.strs _ _ HS10.out.2⟩
      have cI7 := cI5 w12 d s k b half hv sv lv D hS12 hF12 (HLow.out _ HB12.out).2.1
      clear cC cI5 hA12 hS12 hF12 HB10 HS10 HX10
      go_wp2_with fail
      refine cI7.mono ?_
      rintro e w13 ⟨⟨f13, rfl⟩, d3, s3, hv3, sv3, lv3, D3, hD13, hF13, hA13⟩
      have HB13 : Hid (Below w3.heap.size w3 w13) := HB12.out.trans hA13.low
      have HS13 : Hid (StrsIn w13 (.slice a8 l0.length c8) (txsB l0) ∧ StrsIn w13 (.slice a10 l1.length c10) (txsB l1)) := ⟨hA13.strs _ _ HS12.out.1, hA13.strs _ _ HS12.out.2⟩
      have cL := dn_lost hD13
      have cR1 := fun after => dn_reopen hD13 mask after w3.heap.size hF13
      clear cI7 hA13 hD13 hF13 HB12 HS12
      go_wp2_with fail
      refine cL.mono ?_
      rintro e w14 ⟨rfl, e14⟩
      obtain rfl := e14
      clear cL
      go_wp2_with fail
      refine (cK2 _).mono ?_
      rintro e w15 ⟨m2, hm2, rfl, e15⟩
      obtain rfl := e15
      clear cK2
      go_wp2_with fail
      refine (cR1 _).mono ?_
      rintro e w16 ⟨rfl, hA16, m3, s4, k4, b4, D4, hQ, hH4, hD16, -, -, hF16⟩
      have HB16 : Hid (Below w3.heap.size w3 w16) := HB13.out.trans hA16.low
      have HS16 : Hid (StrsIn w16 (.slice a8 l0.length c8) (txsB l0) ∧ StrsIn w16 (.slice a10 l1.length c10) (txsB l1)) := ⟨hA16.strs _ _ HS13.out.1, hA16.strs _ _ HS13.out.2⟩
      have cR2 := fun mask => dn_reopen hD16 mask (-1) w3.heap.size hF16
      have HQ : Hid (m3 = l1 ∨ (D3.dead = true ∧ m3 = l0)) := hQ
      clear cR1 hA16 hQ hD16 hF16 HB13 HS13
      go_wp2_with fail
      refine (cR2 _).mono ?_
      rintro e w17 ⟨rfl, hA17, m4, s5, k5, b5, D5, hm4, hH5, hD17, -, -, hF17⟩
      subst hm4
      have HB17 : Hid (Below w3.heap.size w3 w17) := HB16.out.trans hA17.low
      have HS17 : Hid (StrsIn w17 (.slice a8 l0.length c8) (txsB l0) ∧ StrsIn w17 (.slice a10 l1.length c10) (txsB l1)) := ⟨hA17.strs _ _ HS16.out.1, hA17.strs _ _ HS16.out.2⟩
      have cR3 := dn_reopen hD17 0 (-1) w3.heap.size hF17
      clear cR2 hA17 hD17 hF17 HB16 HS16
      go_wp2_with fail
      refine cR3.mono ?_
      rintro e w18 ⟨rfl, hA18, m5, s6, k6, b6, D6, hm5, hH6, hD18, hst, hset, hF18⟩
      subst hm5
      obtain ⟨A18, hA18'⟩ : ∃ A18, A18 = w18.alloc (.cells okC 23) := ⟨_, rfl⟩
      have hBA : Below w18.heap.size w18 A18 := by rw [hA18']; exact (Below.refl _ w18).alloc (Nat.le_refl _) _
      have hh18 : A18.heap[w18.heap.size]? = some (.cells okC 23 (0, 0)) := by rw [hA18']; exact heap_alloc_new w18 _
      have HA18 : Hid (A18 = w18.alloc (.cells okC 23)) := hA18'
      have cP3 := dn_packs (w := A18) ((hBA.block x (Array.getElem?_eq_some_iff.1 hD18.sess).1).trans hD18.sess) ((hBA.block s6 (Array.getElem?_eq_some_iff.1 hst).1).trans hst) (hset.below hBA) hH6
      have HB18 : Hid (Below w3.heap.size w3 A18) := (HB17.out.trans hA18.low).trans (hBA.mono (HB17.out.trans hA18.low).size)
      have HS18 : Hid (StrsIn A18 (.slice a8 l0.length c8) (txsB l0) ∧ StrsIn A18 (.slice a10 l1.length c10) (txsB l1)) := ⟨(hA18.strs _ _ HS17.out.1).below hBA, (hA18.strs _ _ HS17.out.2).below hBA⟩
      have HH18 : Hid (A18.heap[w18.heap.size]? = some (.cells okC 23 (0, 0))) := hh18
      have hml := hH6.few
      clear cR3 hA18 hD18 hF18 hst hset hBA hh18 HB17 HS17 hA18'
      go_wp2_with fail
      rw [← HA18.out]
      refine cP3.mono ?_
      rintro e w19 ⟨a19, c19, rfl, hs19, hB19⟩
      have cS3 := ksame_any _ _ _ _ w19 hs19 (HS18.out.1.below hB19) (by rw [txsB_len]; omega) (by rw [txsB_len]; omega)
      have HS19 : Hid (StrsIn w19 (.slice a10 l1.length c10) (txsB l1) ∧ StrsIn w19 (.slice a19 m5.length c19) (txsB m5)) := ⟨HS18.out.2.below hB19, hs19⟩
      clear cP3 hs19
      go_wp2_with fail
      refine cS3.mono ?_
      rintro e w20 ⟨rfl, hB20⟩
      have cS4 := ksame_any _ _ _ _ w20 (HS19.out.2.below hB20) (HS19.out.1.below hB20) (by rw [txsB_len]; omega) (by rw [txsB_len]; omega)
      have hB20' := bt hB19 hB20
      clear cS3 hB19 hB20
      go_wp2_with fail
      refine cS4.mono ?_
      rintro e w21 ⟨rfl, hB21⟩
      have hB22 := bt hB20' hB21
      obtain ⟨z0, z1, z2, z3, zf⟩ := okC_cell ((hB22.block _ (Array.getElem?_eq_some_iff.1 HH18.out).1).trans HH18.out)
      have HBz : Hid (Below w.heap.size w w21) := (HLow.out _ (HB18.out.trans (hB22.mono HB18.out.size))).2.2
      have hQ2 : (decide (txsB m5 = txsB l1) = true) ∨ (decide (txsB m5 = txsB l1) = false ∧ decide (txsB m5 = txsB l0) = true ∧ D3.dead = true) := by
        by_cases hE : txsB m5 = txsB l1
        · exact .inl (decide_eq_true hE)
        · rcases HQ.out with e | ⟨e1, e2⟩
          · exact absurd (by rw [e]) hE
          · exact .inr ⟨decide_eq_false hE, decide_eq_true (by rw [e2]), e1⟩
      generalize decide (txsB m5 = txsB l1) = Bq at hQ2
      generalize decide (txsB m5 = txsB l0) = Bp at hQ2
      generalize D3.dead = Bd at hQ2
      clear cS4 hB21 hB22 hB20' HB18 HS18 HS19 HH18 HA18 HQ
      rcases hQ2 with rfl | ⟨rfl, rfl, rfl⟩
      · go_wp2
        go_ret
        exact ⟨rfl, HBz.out⟩
      · go_wp2
        go_ret
        exact ⟨rfl, HBz.out⟩
end Go.Proofs.YtgnfknjopafngaaGreatDoor
namespace Go.Proofs.YtgnfknjopafngaaGreatDoor
namespace SurvivesProof
theorem fact1 : (Rows.survivesRow.inPlace == Tryz.prog.inPlace 12) = true := by kernel_rfl
theorem fact2 : (Rows.survivesRow.unfollowed == Tryz.prog.unfollowed 12) = true := by kernel_rfl
theorem fact3 : (Rows.survivesRow.recurses == Tryz.prog.recurses 12) = true := by kernel_rfl
theorem fact4 : (Rows.survivesRow.named == Tryz.prog.varsNamed 12) = true := by kernel_rfl
theorem closed : joinedFacts Tryz.prog 12 Tryz.f12 Rows.survivesSpec Rows.survivesRow = true := by
  unfold joinedFacts
  rw [fact1, fact2, fact3, fact4]
  kernel_rfl
end SurvivesProof
end Go.Proofs.YtgnfknjopafngaaGreatDoor
namespace Go.Proofs.YtgnfknjopafngaaGreatDoor
namespace SurvivesProof
open Go.ChangeShapes Go.WideShapes Go.ChangeAt Go.RowKit
open LaidKit
theorem trodAll_six {H : Type} {enc : TypeId × Value → H} {P : Program} {w : World} {base : Nat} {spare : Nat → Bool} {held : Bool} {t t' t'' t3 t4 t5 : TypeId} {args : Array Value} {ds : List (DataW H)} {ps : List MemPlace} (h : DataW.TrodAll enc P w base spare held [t, t', t'', t3, t4, t5] args.toList ds ps) :
    ∃ v v' v'' v3 v4 v5 d d' d'' d3 d4 d5 p p' p'' p3 p4 p5, args = #[v, v', v'', v3, v4, v5] ∧ ds = [d, d', d'', d3, d4, d5] ∧ ps = p ++ (p' ++ (p'' ++ (p3 ++ (p4 ++ p5)))) ∧ DataW.Trod enc P w base spare held t v d p ∧ DataW.Trod enc P w base spare held t' v' d' p' ∧ DataW.Trod enc P w base spare held t'' v'' d'' p'' ∧ DataW.Trod enc P w base spare held t3 v3 d3 p3 ∧ DataW.Trod enc P w base spare held t4 v4 d4 p4 ∧ DataW.Trod enc P w base spare held t5 v5 d5 p5 := by
  obtain ⟨v, vs, d, ds', p, q, hargs, rfl, rfl, hd, hrest⟩ := trodAll_cons h
  obtain ⟨v', vs', d', ds2, p', q', rfl, rfl, rfl, hd', hrest'⟩ := trodAll_cons hrest
  obtain ⟨v'', vs'', d'', ds3, p'', q'', rfl, rfl, rfl, hd'', hrest2⟩ := trodAll_cons hrest'
  obtain ⟨v3, vs3, d3, ds4, p3, q3, rfl, rfl, rfl, hd3, hrest3⟩ := trodAll_cons hrest2
  obtain ⟨v4, vs4, d4, ds5, p4, q4, rfl, rfl, rfl, hd4, hrest4⟩ := trodAll_cons hrest3
  obtain ⟨v5, vs5, d5, ds6, p5, q5, rfl, rfl, rfl, hd5, hrest5⟩ := trodAll_cons hrest4
  obtain ⟨rfl, rfl, rfl⟩ := trodAll_nil hrest5
  exact ⟨v, v', v'', v3, v4, v5, d, d', d'', d3, d4, d5, p, p', p'', p3, p4, p5, by cases args; simp_all, rfl, by simp, hd, hd', hd'', hd3, hd4, hd5⟩
set_option maxRecDepth 100000 in
theorem lifted (os : Os) (started : os.Started) (H : Type) (enc : TypeId × Value → H) :
    ReturnsInHanded {} Tryz.checked os 12 .any (fun w args => (Rows.survivesSpec.pre enc Tryz.prog Tryz.f12 Rows.survivesRow.domain false w args ∧ laidMetH Tryz.prog Rows.survivesRow.laid w) ∧ sizedMet enc Tryz.prog Tryz.f12 (OpenSpec.ofChange Rows.survivesSpec) false w args)
      (Rows.survivesSpec.post enc Tryz.prog Tryz.f12 false true false false) := by
  refine returnsInHanded_of_calls (C := Tryz.checked) own started (by kernel_rfl)
    (ChangeSpec.witness_shaped (enc := enc) (C := Tryz.checked) (os := os) (X := fun w _ => laidMetH Tryz.prog Rows.survivesRow.laid w) false ((witH (World.holding Tryz.prog os ⟨#[], #[], []⟩)).layVars Tryz.prog dataL) #[.int .i64 0, .slice none 0 0, .slice none 0 0, .int .i64 0, .int .i64 0, .int .i64 0] 8 (wit_os os)
      (World.shaped_of_ZipB (by kernel_rfl) (by kernel_rfl)) (by kernel_rfl) (by kernel_rfl) (by kernel_rfl) (wit_met os _)) ?_
  intro w0 tape inp _ hsh _ hok hpre _
  obtain ⟨_, _, _, fn', hfn', _, _, _, _, hval0'⟩ := hok
  obtain rfl : fn' = Tryz.f12 := Option.some.inj (hfn'.symm.trans Tryz.func12)
  obtain ⟨⟨⟨ds, gs, before, hw, _⟩, hx⟩, hz⟩ := hpre
  have hW := DataW.Whole.of_heap (w' := w0.forCall tape inp) (by rfl) hw
  have hsz := hz.weights hw
  have hL : laidMetH Tryz.prog L (w0.forCall tape inp) := laidMetH.of_heap (by rfl) hx
  have hI := maxLen_int hsh
  suffices hc : Calls Tryz.prog 12 inp.args (w0.forCall tape inp) fun e W' => ∃ v, e = .returned v ∧ Rows.survivesSpec.post enc Tryz.prog Tryz.f12 false true false false (w0.forCall tape inp) inp.args v W' by
    refine hc.mono fun e W' ⟨v, he, hp⟩ => ?_
    subst he
    exact ChangeSpec.post_blind hp
  clear hz hx hw hsh
  revert hval0' hW hsz hL hI
  generalize inp.args = args
  generalize w0.forCall tape inp = W
  intro hval0 hW hsz hL hI
  have hval : ∀ (j : Nat) t v, Tryz.f12.params[j]? = some t → args[j]? = some v → Value.okWide Tryz.prog W .any w0.heap.size t v := hval0
  have hW' := hW
  obtain ⟨p, q, hA0, hV, rfl, _, _⟩ := hW
  have hA : DataW.TrodAll enc Tryz.prog W 0 (fun _ => true) true Tryz.f12.params.toList args.toList ds p := hA0
  rw [Tryz.params12] at hA hval hsz
  obtain ⟨v0, v1, v2, v3, v4, v5, d0, d1, d2, d3, d4, d5, p0, p1, p2, p3, p4, p5, rfl, rfl, rfl, h0, h1, h2, h3, h4, h5⟩ := trodAll_six hA
  obtain ⟨rfl, rfl⟩ := trodVars_none hV
  have h1k := h1
  have h2k := h2
  obtain ⟨n0, rfl, rfl, rfl, hn0⟩ := open_int Tryz.underlying3 (hval 0 3 v0 rfl rfl) h0
  obtain ⟨l1, t1, z1, y1⟩ := open_txts (okWide_slice Tryz.underlying43 (hval 1 43 v1 rfl rfl)) h1 (weights_of hsz (j := 1) rfl rfl)
  obtain ⟨l2, t2, z2, y2⟩ := open_txts (okWide_slice Tryz.underlying43 (hval 2 43 v2 rfl rfl)) h2 (weights_of hsz (j := 2) rfl rfl)
  obtain ⟨n3, rfl, rfl, rfl, hn3⟩ := open_int Tryz.underlying3 (hval 3 3 v3 rfl rfl) h3
  obtain ⟨n4, rfl, rfl, rfl, hn4⟩ := open_int Tryz.underlying3 (hval 4 3 v4 rfl rfl) h4
  obtain ⟨n5, rfl, rfl, rfl, hn5⟩ := open_int Tryz.underlying3 (hval 5 3 v5 rfl rfl) h5
  have hr := reachBytes_lt
  have hE : Ready W := ⟨laid_err hL, hI⟩
  have hlt : ∀ x ∈ p1 ++ p2, x.block < W.heap.size := fun x hx => hW'.lt x (by simpa using hx)
  obtain ⟨b1, b2⟩ := bounds_i64 hn3
  obtain ⟨b3, b4⟩ := bounds_i64 hn4
  obtain ⟨b5, b6⟩ := bounds_i64 hn5
  refine (survives_law n0 v1 v2 l1 l2 n3 n4 n5 W hE t1 t2 (by omega) (fun t ht => by have := y1 t ht; omega) (by omega) (fun t ht => by have := y2 t ht; omega) b1 b2 b3 b4 b5 b6).mono fun e W' ⟨he, hb'⟩ => ?_
  subst he
  exact ⟨_, rfl, _, _, _, [], _, [], hW', trodAll_mk1 (shut_bool Tryz.underlying4 _), trodAll_cons_mk (shut_int Tryz.underlying3 hn0) (trodAll_cons_mk (Below.trod laidOut (by kernel_rfl) (of_decide_eq_true (by kernel_rfl)) h1k hb' (fun x hx => hlt x (by simp [hx]))) (trodAll_cons_mk (Below.trod laidOut (by kernel_rfl) (of_decide_eq_true (by kernel_rfl)) h2k hb' (fun x hx => hlt x (by simp [hx]))) (trodAll_mk3 (shut_int Tryz.underlying3 hn3) (shut_int Tryz.underlying3 hn4) (shut_int Tryz.underlying3 hn5)))), rfl, hb'.frame _, fun h => by cases h⟩
theorem said : Rows.SurvivesSaid :=
  OpenClaim.holds_of_wide 12 Tryz.f12 rfl rfl rfl rfl rfl rfl rfl ⟨rfl, rfl, rfl, rfl, rfl⟩ rfl rfl rfl rfl rfl (by kernel_rfl) Tryz.func12 closed
    (of_decide_eq_true (by kernel_rfl)) (by unfold Func.isWrapper; first | (rw [if_pos (by decide +kernel)]; kernel_rfl) | (rw [if_neg (by decide +kernel)]; exact ⟨rfl, rfl⟩))
    (fun os started H enc _ => lifted os started H enc)
theorem plain (f : FuncId) (fn : Func) (hf : Tryz.pinned.checked.prog.funcNamed "parcels/parcelskeep.Survives" = some f) (hfn : Tryz.pinned.checked.prog.funcs[f]? = some fn) :
    true = Tryz.pinned.checked.prog.looks [] ∧ ∀ (j : Nat) t, fn.params[j]? = some t → Tryz.pinned.checked.prog.wantsStandIn t = false := by
  obtain rfl : f = 12 := Option.some.inj ((show Tryz.prog.funcNamed "parcels/parcelskeep.Survives" = some 12 by kernel_rfl).symm.trans hf) |>.symm
  obtain rfl : fn = Tryz.f12 := (Option.some.inj (Tryz.func12.symm.trans hfn)).symm
  refine ⟨by kernel_rfl, fun j t ht => ?_⟩
  rw [Tryz.params12] at ht
  have hm : t ∈ [3, 43, 43, 3, 3, 3] := by simpa using Array.mem_of_getElem? ht
  have hm2 : t = 3 ∨ t = 43 := by
    simp only [List.mem_cons, List.not_mem_nil, or_false] at hm
    rcases hm with e | e | e | e | e | e
    · exact .inl e
    · exact .inr e
    · exact .inr e
    · exact .inl e
    · exact .inl e
    · exact .inl e
  rcases hm2 with rfl | rfl
  · exact (show Tryz.prog.wantsStandIn 3 = false by kernel_rfl)
  · exact (show Tryz.prog.wantsStandIn 43 = false by kernel_rfl)
end SurvivesProof
theorem survives_card : Rows.SurvivesCardSaid :=
  Claim7.holds_tied_plain_at .later [] _ _ _ _ SurvivesProof.said (fun _ h => by cases h) (by kernel_rfl) (fun _ h => by cases h) survives_row_tie rfl ⟨rfl, rfl⟩ (by kernel_rfl) rfl SurvivesProof.plain (by kernel_rfl)
end Go.Proofs.YtgnfknjopafngaaGreatDoor
