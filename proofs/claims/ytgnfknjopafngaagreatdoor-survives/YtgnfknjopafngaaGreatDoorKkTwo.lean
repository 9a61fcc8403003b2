import Derived.Test.YtgnfknjopafngaaGreatDoorKkaq
import Derived.Test.YtgnfknjopafngaaGreatDoorKki
namespace Go.Proofs.YtgnfknjopafngaaGreatDoor
open Go.RowKit Go.Maps
def XF (W : World) (F : Nat → Prop) (x n : Nat) (l : List M.Pk) : Prop := ∃ d s k b half hv sv lv D, SessIs W x d s k b half n hv sv lv D l ∧ M.Stays D ∧ ∀ j, F j ↔ xFoot x d s k hv sv lv j
theorem XF.below {W W' : World} {F : Nat → Prop} {x n : Nat} {l : List M.Pk} (h : XF W F x n l) (hb : Below W.heap.size W W') : XF W' F x n l := by
  obtain ⟨d, s, k, b, half, hv, sv, lv, D, h1, h2, h3⟩ := h
  exact ⟨d, s, k, b, half, hv, sv, lv, D, h1.below hb, h2, h3⟩
theorem XF.at {W : World} {F : Nat → Prop} {B x n : Nat} {l : List M.Pk} (h : XF W F x n l) (hF : ∀ j, F j → B ≤ j) : XAt W B x n l := by
  obtain ⟨d, s, k, b, half, hv, sv, lv, D, h1, h2, h3⟩ := h
  exact ⟨d, s, k, b, half, hv, sv, lv, D, h1, h2, fun j hj => hF j ((h3 j).2 hj)⟩
theorem SessIs.lt {W : World} {x d s k b half n : Nat} {hv sv lv : Value} {D : M.Dk} {l : List M.Pk} (h : SessIs W x d s k b half n hv sv lv D l) {j : Nat} (hj : xFoot x d s k hv sv lv j) : j < W.heap.size := by
  rcases hj with rfl | rfl | rfl | hj
  · exact (Array.getElem?_eq_some_iff.1 h.sess).1
  · exact (Array.getElem?_eq_some_iff.1 h.store).1
  · exact (Array.getElem?_eq_some_iff.1 h.known).1
  · exact (h.disk.lt j hj).2
theorem XF.lt {W : World} {F : Nat → Prop} {x n : Nat} {l : List M.Pk} (h : XF W F x n l) {j : Nat} (hj : F j) : j < W.heap.size := by
  obtain ⟨d, s, k, b, half, hv, sv, lv, D, h1, h2, h3⟩ := h
  exact h1.lt ((h3 j).1 hj)
structure Mild (F : Nat → Prop) (w : World) : Prop where
  text : NoText F w
  u8 : NoU8 F w
  str : NoStr F w
  high : ∀ j, F j → 1 < j
theorem SessIs.mild {W : World} {x d s k b half n : Nat} {hv sv lv : Value} {D : M.Dk} {l : List M.Pk} (h : SessIs W x d s k b half n hv sv lv D l) : Mild (xFoot x d s k hv sv lv) W := by
  refine ⟨h.noText, fun j hj cur fz e => ?_, h.noStr, h.high⟩
  rcases hj with rfl | rfl | rfl | hj
  · exact ty_ne e h.sess (by decide) rfl
  · exact ty_ne e h.store (by decide) rfl
  · exact ty_ne e h.known (by decide) rfl
  · exact h.disk.off e (by decide) (by decide) (by decide) hj
theorem XF.mild {W : World} {F : Nat → Prop} {x n : Nat} {l : List M.Pk} (h : XF W F x n l) : Mild F W := by
  obtain ⟨d, s, k, b, half, hv, sv, lv, D, h1, h2, h3⟩ := h
  have := h1.mild
  exact ⟨fun j hj => this.text j ((h3 j).1 hj), fun j hj => this.u8 j ((h3 j).1 hj), fun j hj => this.str j ((h3 j).1 hj), fun j hj => this.high j ((h3 j).1 hj)⟩
theorem XF.other {W W' : World} {F G : Nat → Prop} {x n : Nat} {l : List M.Pk} (h : XF W G x n l) (hc : Chg F W W') (hm : Mild F W) (hd : ∀ j, G j → ¬ F j) : XF W' G x n l := by
  obtain ⟨d, s, k, b, half, hv, sv, lv, D, h1, h2, h3⟩ := h
  have hd' : ∀ j, xFoot x d s k hv sv lv j → ¬ F j := fun j hj => hd j ((h3 j).2 hj)
  refine ⟨d, s, k, b, half, hv, sv, lv, D, ⟨h1.ready.chg hc hm.high, h1.sess.chg hc (hd' x (.inl rfl)), ?_, ?_, h1.disk.chg hc hm.u8 (fun j hj => hd' j (.inr (.inr (.inr hj)))), h1.set.chg hc hm.text (fun p hp => (h1.tog.back p hp).few), h1.n1, h1.n2, h1.ho, h1.rest, h1.left, h1.tog, h1.room, h1.high⟩, h2, h3⟩
  · exact (hc.block s (Array.getElem?_eq_some_iff.1 h1.store).1 (hd' s (.inr (.inl rfl)))).trans h1.store
  · exact (hc.block k (Array.getElem?_eq_some_iff.1 h1.known).1 (hd' k (.inr (.inr (.inl rfl))))).trans h1.known
theorem SessIs.turnedF {w w' : World} {x d s k b half n : Nat} {hv sv lv : Value} {D : M.Dk} {l all : List M.Pk} (h : SessIs w x d s k b half n hv sv lv D l) (hs : M.Stays D) (ht : M.Tog all) (hr : (M.sizeS all : Int) ≤ 24 * ((n : Int) - 8)) (hT : TurnTo w x d s k half n hv sv lv D all w') :
    ∃ F', XF w' F' x n all ∧ Chg (xFoot x d s k hv sv lv) w w' ∧ ∀ j, F' j → xFoot x d s k hv sv lv j ∨ w.heap.size ≤ j := by
  obtain ⟨nb, lv', h1, h2, h3, h4, h5, h6, h7, h8⟩ := hT
  obtain ⟨hf1, hf2⟩ := M.packed_fits ht.back ht.apart h.n1 h.n2 hr
  have hst := hs.save n (1 - half) (M.packed all)
  have hrest : M.Rest (D.save n (1 - half) (M.packed all)) n (1 - half) (M.packed all) := by
    rcases M.save_ok h.rest (by have := h.n1; omega) hf1 hf2 with e | e
    · exact e
    · have := e.dead
      rw [hst.1] at this
      cases this
  have hnew : ∀ j, xFoot x d s k hv sv lv' j → xFoot x d s k hv sv lv j ∨ w.heap.size ≤ j := by
    rintro j (e | e | e | e | e | e | e)
    · exact .inl (.inl e)
    · exact .inl (.inr (.inl e))
    · exact .inl (.inr (.inr (.inl e)))
    · exact .inl (.inr (.inr (.inr (.inl e))))
    · exact .inl (.inr (.inr (.inr (.inr (.inl e)))))
    · exact .inl (.inr (.inr (.inr (.inr (.inr (.inl e))))))
    · rcases h8 j e with e | e
      · exact .inl (.inr (.inr (.inr (.inr (.inr (.inr e))))))
      · exact .inr e
  have hlt := h.ready.lt
  exact ⟨_, ⟨d, s, k, nb, 1 - half, hv, sv, lv', _, ⟨h1, h2, h3, h4, h6, h5, h.n1, h.n2, by omega, hrest, by rw [hst.2]; omega, ht, hr, fun j hj => (hnew j hj).elim (h.high j) (fun e => by omega)⟩, hst, fun j => Iff.rfl⟩, h7.weak (fun j _ e => .inr e), hnew⟩
def FPost (R : Sum M.Fa (List M.Pk)) (F : Nat → Prop) (x n : Nat) (l : List M.Pk) (w : World) (e : Ending) (w' : World) : Prop := e = .returned (faV (faultI R)) ∧ ∃ F', XF w' F' x n (afterI l R) ∧ Chg F w w' ∧ ∀ j, F' j → F j ∨ w.heap.size ≤ j
theorem f_install {w : World} {F : Nat → Prop} {x n : Nat} {l : List M.Pk} (h : XF w F x n l) (xv : Value) (texts : List ByteArray) (hx : TxtsIn w xv texts) (hxn : texts.length ≤ 10000) (hxs : ∀ t ∈ texts, t.size ≤ 8192) :
    Calls Tryz.prog 21 #[.pointer (some ⟨x, 0, none⟩), xv] w (FPost (M.installedS l (texts.map fun t => t.data.toList) (24 * ((n : Int) - 8))) F x n l w) := by
  obtain ⟨d, s, k, b, half, hv, sv, lv, D, h1, h2, h3⟩ := h
  refine (sess_install h1 xv texts hx hxn hxs).mono fun e w' hp => ?_
  cases hR : M.installedS l (texts.map fun t => t.data.toList) (24 * ((n : Int) - 8)) with
  | inl f =>
    rw [hR] at hp
    exact ⟨hp.1, F, ⟨d, s, k, b, half, hv, sv, lv, D, h1.below hp.2, h2, h3⟩, Chg.below hp.2, fun j hj => .inl hj⟩
  | inr all =>
    rw [hR] at hp
    obtain ⟨_, _, _, _, _, q1, _, q2⟩ := M.installed_ok hR h1.tog.back h1.tog.apart
    obtain ⟨F', k1, k2, k3⟩ := h1.turnedF h2 q1 q2 hp.2
    exact ⟨hp.1, F', k1, k2.weak (fun j _ e => (h3 j).2 e), fun j hj => (k3 j hj).imp (h3 j).2 id⟩
theorem f_new (n : Int) (w : World) (hR : Ready w) : Calls Tryz.prog 20 #[.int .i64 n] w fun e w' => ∃ x F, e = .returned (.tuple #[.pointer (some ⟨x, 0, none⟩), okV]) ∧ XF w' F x (sectorsN n) [] ∧ (∀ j, F j → w.heap.size ≤ j) ∧ Below w.heap.size w w' := by
  refine (sess_new n w hR).mono ?_
  rintro e w' ⟨x, d, s, k, b, hv, sv, rfl, h1, h2, h3⟩
  exact ⟨x, _, rfl, ⟨d, s, k, b, 0, hv, sv, _, _, h1, ⟨rfl, rfl⟩, fun j => Iff.rfl⟩, h2, h3⟩
theorem f_packs {w : World} {F : Nat → Prop} {x n : Nat} {l : List M.Pk} (h : XF w F x n l) : Calls Tryz.prog 22 #[.pointer (some ⟨x, 0, none⟩)] w fun e w' => ∃ a c, e = .returned (.tuple #[.slice a l.length c, .bool true]) ∧ StrsIn w' (.slice a l.length c) (txsB l) ∧ Below w.heap.size w w' := x_packs (h.at (B := 0) (fun _ _ => Nat.zero_le _))
theorem XF.tog {w : World} {F : Nat → Prop} {x n : Nat} {l : List M.Pk} (h : XF w F x n l) : M.Tog l ∧ l.length ≤ 600 := (h.at (B := 0) (fun _ _ => Nat.zero_le _)).tog
theorem flt_mild {w : World} {j : Nat} {a b c : Int} {N : ByteArray} (h : w.heap[j]? = some (.cells #[.int .i64 a, .int .i64 b, .int .i64 c, .string N] 23 (0, 0))) (hj : 1 < j) : Mild (fun i => i = j) w := by
  refine ⟨NoText.one h (fun s e => by cases e) (fun a n p e => by cases e), noU8_one h (by decide), ?_, fun i e => by rw [e]; exact hj⟩
  rintro i rfl s e
  rw [show w.cell? ⟨i, 0, none⟩ = some (.int .i64 a) from (cell_of_row w _ 0 _ _ (0, 0) h).trans rfl] at e
  cases e
theorem flt_store {w : World} {j : Nat} {a b c : Int} {N : ByteArray} (h : w.heap[j]? = some (.cells #[.int .i64 a, .int .i64 b, .int .i64 c, .string N] 23 (0, 0))) (a' b' c' : Int) (N' : ByteArray) :
    ((((w.setCell ⟨j, 0, none⟩ (.int .i64 a')).setCell ⟨j, 1, none⟩ (.int .i64 b')).setCell ⟨j, 2, none⟩ (.int .i64 c')).setCell ⟨j, 3, none⟩ (.string N')).heap[j]? = some (.cells #[.int .i64 a', .int .i64 b', .int .i64 c', .string N'] 23 (0, 0)) ∧
    Chg (fun i => i = j) w ((((w.setCell ⟨j, 0, none⟩ (.int .i64 a')).setCell ⟨j, 1, none⟩ (.int .i64 b')).setCell ⟨j, 2, none⟩ (.int .i64 c')).setCell ⟨j, 3, none⟩ (.string N')) := by
  have h1 := heap_setCell_same w j 0 _ _ (.int .i64 a') h
  have h2 := heap_setCell_same _ j 1 _ _ (.int .i64 b') h1
  have h3 := heap_setCell_same _ j 2 _ _ (.int .i64 c') h2
  have h4 := heap_setCell_same _ j 3 _ _ (.string N') h3
  refine ⟨h4, ?_⟩
  have g : ∀ (X : World) (o : Nat) (v : Value), Chg (fun i => i = j) X (X.setCell ⟨j, o, none⟩ v) := fun X o v => Chg.grown (setCell_grown X j o v) (fun i e _ => (Option.some.inj e).symm)
  exact (((g _ _ _).then (g _ _ _) (fun _ _ e => e)).then (g _ _ _) (fun _ _ e => e)).then (g _ _ _) (fun _ _ e => e)
end Go.Proofs.YtgnfknjopafngaaGreatDoor
namespace Go.Proofs.YtgnfknjopafngaaGreatDoor
open Go.RowKit Go.Maps
set_option maxRecDepth 100000 in
set_option maxHeartbeats 1000000 in
theorem kpick_any (c : Int) (n : Nat) (w : World) (h1 : 0 < n) (h2 : n ≤ 1000000) (h3 : -9223372036854775808 ≤ c) (h4 : c ≤ 9223372036854775807) :
    Calls Tryz.prog 29 #[.int .i64 c, .int .i64 n] w fun e w' => ∃ m : Nat, m < n ∧ e = .returned (.int .i64 m) ∧ w' = w := by
  have hn0 : ¬ ((n : Int) = 0) := by omega
  have hn1 : ((n : Int) == 0) = false := by simp; omega
  by_cases hc : c < 0
  · have hm : (0 : Int) ≤ -((c + 1).tmod n) ∧ -((c + 1).tmod n) < n := by
      rw [← Int.neg_tmod]
      exact ⟨Int.tmod_nonneg _ (by omega), Int.tmod_lt_of_pos _ (by omega)⟩
    obtain ⟨m, hm2⟩ := Int.eq_ofNat_of_zero_le hm.1
    have HM : Hid (-((c + 1).tmod n) = m) := hm2
    have HL : Hid (m < n) := by show _ < _; have := hm.2; omega
    clear hm hm2
    go_enter Tryz.func29, Tryz.ntmps29
    go_wp2
    go_ret
    exact ⟨m, HL.out, by rw [← HM.out]; rfl, rfl⟩
  · have hm : (0 : Int) ≤ c % n ∧ c % n < n := ⟨Int.emod_nonneg _ (by omega), Int.emod_lt_of_pos _ (by omega)⟩
    obtain ⟨m, hm2⟩ := Int.eq_ofNat_of_zero_le hm.1
    have HM : Hid (c % n = m) := hm2
    have HL : Hid (m < n) := by show _ < _; have := hm.2; omega
    clear hm hm2
    go_enter Tryz.func29, Tryz.ntmps29
    go_wp2
    go_ret
    exact ⟨m, HL.out, by rw [← HM.out]; rfl, rfl⟩
set_option maxRecDepth 100000 in
theorem ksign_any (k : Nat) (w : World) : Calls Tryz.prog 30 #[.int .i64 k] w fun e w' => e = .returned (.int .i64 (if k = 0 then (0 : Nat) else (1 : Nat))) ∧ w' = w := by
  by_cases h : k = 0
  · subst h
    go_enter Tryz.func30, Tryz.ntmps30
    go_wp2
    go_ret
    exact ⟨rfl, rfl⟩
  · rw [if_neg h]
    have h1 : ¬ ((k : Int) = 0) := by omega
    have h2 : ((k : Int) == 0) = false := by simp; omega
    go_enter Tryz.func30, Tryz.ntmps30
    go_wp2
    go_ret
    exact ⟨rfl, rfl⟩
theorem ss_behind (w : World) (g off n c k : Nat) (hk : k < n) (hn : n ≤ c) :
    (Instr.slice 43 (.slice (some ⟨g, off, none⟩) n c) (some (.int .i64 k)) none none).run Tryz.prog w = .ok (.slice (some ⟨g, off + k, none⟩) (n - k) (c - k)) w := by
  rw [run_slice_l w _ _ _ _ strs_elem _ _ (by omega) (by omega), strs_size]
  simp only [Result.andThen, sliced]
  by_cases h : c = k
  · omega
  · simp [h, Addr.add_lit]
theorem ss_ahead (w : World) (g off n c k : Nat) (hk : k ≤ n) (hn : n ≤ c) :
    (Instr.slice 43 (.slice (some ⟨g, off, none⟩) n c) none (some (.int .i64 k)) none).run Tryz.prog w = .ok (.slice (some ⟨g, off, none⟩) k c) w := by
  rw [run_slice_h w _ _ _ _ strs_elem _ _ (by omega) (by omega), strs_size]
  simp only [Result.andThen, sliced]
  simp [Addr.add]
theorem turn_two {w : World} {g off n c k : Nat} {l : List ByteArray} (ty : TypeId) (h : TxtsIn w (.slice (some ⟨g, off, none⟩) n c) l) (hn : n = l.length) (hk : k < n) (hz : n ≤ 100000) :
    ∃ a1 c1 w1, (Builtin.append_ #[43, 43] ty #[.slice none 0 0, .slice (some ⟨g, off + k, none⟩) (n - k) (c - k)]).run Tryz.prog w = .ok (.slice a1 (n - k) c1) w1 ∧ Below w.heap.size w w1 ∧
      ∃ a2 c2 w2, (Builtin.append_ #[43, 43] ty #[.slice a1 (n - k) c1, .slice (some ⟨g, off, none⟩) k c]).run Tryz.prog w1 = .ok (.slice a2 n c2) w2 ∧ StrsIn w2 (.slice a2 n c2) (l.drop k ++ l.take k) ∧ Below w.heap.size w w2 := by
  subst hn
  obtain ⟨i0, hi0, hz0, hz1, hz2⟩ := info_parts infoStr
  obtain ⟨g', off', e, hg, hc, hcl⟩ := h.cellAt (by omega)
  cases e
  obtain ⟨v1, w1, hr1, o1, gr1, _⟩ := run_append_own (P := Tryz.prog) w w.heap.size 43 ty 9 i0 (.string ⟨#[]⟩) 1 16 Tryz.underlying43 hi0 hz0 hz1 hz2 rfl (by decide) (.slice none 0 0) 0 [] (World.ownsRow_nil w _ _ 1) ⟨g, off + k, none⟩ (l.length - k) (c - k) ((l.drop k).map Value.string) (by simp) (fun j u hu => by
    rw [Addr.add_lit, Nat.add_assoc]
    rw [List.getElem?_map, List.getElem?_drop] at hu
    obtain ⟨t, ht, rfl⟩ := Option.map_eq_some_iff.1 hu
    obtain ⟨hj, e⟩ := List.getElem?_eq_some_iff.1 ht
    rw [hcl (k + j) hj, e]) (fun u hu => by obtain ⟨x, _, rfl⟩ := List.mem_map.1 hu; rfl) (by unfold maxLen; omega) (by omega) (Nat.le_refl _)
  rw [Nat.zero_add, List.nil_append] at o1
  have hB1 : Below w.heap.size w w1 := ⟨gr1.os, gr1.tape, gr1.output, gr1.size, fun j hj => gr1.block j hj (by simp [Value.ownBlock])⟩
  obtain ⟨a1, c1, rfl⟩ := own_form o1
  obtain ⟨v2, w2, hr2, o2, gr2, _⟩ := run_append_own (P := Tryz.prog) w1 w.heap.size 43 ty 9 i0 (.string ⟨#[]⟩) 1 16 Tryz.underlying43 hi0 hz0 hz1 hz2 rfl (by decide) (.slice a1 (l.length - k) c1) (l.length - k) ((l.drop k).map Value.string) o1 ⟨g, off, none⟩ k c ((l.take k).map Value.string) (by simp; omega) (fun j u hu => by
    rw [Addr.add_lit]
    rw [List.getElem?_map] at hu
    obtain ⟨t, ht, rfl⟩ := Option.map_eq_some_iff.1 hu
    obtain ⟨hj, e⟩ := List.getElem?_eq_some_iff.1 ht
    rw [List.length_take] at hj
    rw [List.getElem_take] at e
    rw [hB1.cell (p := ⟨g, off + j, none⟩) hg, hcl j (by omega), e]) (fun u hu => by obtain ⟨x, _, rfl⟩ := List.mem_map.1 hu; rfl) (by unfold maxLen; omega) (by omega) hB1.size
  rw [show l.length - k + k = l.length by omega, ← List.map_append] at o2
  obtain ⟨a2, c2, rfl⟩ := own_form o2
  have hB2 : Below w.heap.size w w2 := hB1.trans ⟨gr2.os, gr2.tape, gr2.output, gr2.size, fun j hj => gr2.block j (by have := hB1.size; omega) (fun e => by have := (o1.lt j e.symm).1; omega)⟩
  refine ⟨a1, c1, w1, hr1, hB1, a2, c2, w2, hr2, ?_, hB2⟩
  have := (RowIn.own o2).wide (Nat.zero_le _) (Nat.le_refl _)
  unfold StrsIn
  rw [show (l.drop k ++ l.take k).length = l.length by simp; omega]
  exact this
end Go.Proofs.YtgnfknjopafngaaGreatDoor
namespace Go.Proofs.YtgnfknjopafngaaGreatDoor
open Go.RowKit Go.Maps
theorem XF.flt {W : World} {F : Nat → Prop} {x n : Nat} {l : List M.Pk} (h : XF W F x n l) {j : Nat} {c : Array Value} {f : Nat × Nat} (hj : W.heap[j]? = some (.cells c 23 f)) : ¬ F j := fun e => by
  obtain ⟨d, s, k, b, half, hv, sv, lv, D, h1, h2, h3⟩ := h
  rcases (h3 j).1 e with rfl | rfl | rfl | e
  · exact ty_ne hj h1.sess (by decide) rfl
  · exact ty_ne hj h1.store (by decide) rfl
  · exact ty_ne hj h1.known (by decide) rfl
  · exact h1.disk.off hj (by decide) (by decide) (by decide) e
theorem XF.ready {W : World} {F : Nat → Prop} {x n : Nat} {l : List M.Pk} (h : XF W F x n l) : Ready W := (h.at (B := 0) (fun _ _ => Nat.zero_le _)).ready
theorem strs_len {w : World} {a : Option Addr} {n c : Nat} {l : List ByteArray} (h : StrsIn w (.slice a n c) l) : n = l.length := by
  rcases h with ⟨e, h0, _⟩ | ⟨g, cap, e, _⟩
  · cases e
    exact h0.symm
  · cases e
    rfl
theorem planned_rot {T T' : List (List UInt8)} (hp : T.Perm T') (room : Int) :
    (∃ f f', M.plannedS [] T = .inl f ∧ M.plannedS [] T' = .inl f' ∧ M.installedS [] T room = .inl f ∧ M.installedS [] T' room = .inl f' ∧ f.kind ≠ 0 ∧ f'.kind ≠ 0) ∨
    (∃ all all' names, M.plannedS [] T = .inr (all, names) ∧ M.plannedS [] T' = .inr (all', names) ∧ ((M.installedS [] T room = .inl ⟨8, 0, 0, []⟩ ∧ M.installedS [] T' room = .inl ⟨8, 0, 0, []⟩) ∨ (M.installedS [] T room = .inr all ∧ M.installedS [] T' room = .inr all' ∧ all.Perm all' ∧ M.Apart all ∧ all.length = T.length))) := by
  cases h1 : M.plannedS [] T with
  | inl f =>
    cases h2 : M.plannedS [] T' with
    | inl f' =>
      have k1 := (planned_kinds h1).1
      have k2 := (planned_kinds h2).1
      exact .inl ⟨f, f', rfl, rfl, by unfold M.installedS; rw [h1], by unfold M.installedS; rw [h2], by omega, by omega⟩
    | inr q =>
      obtain ⟨all', names⟩ := q
      obtain ⟨all, h3, _⟩ := M.planned_perm hp.symm h2
      rw [h1] at h3
      cases h3
  | inr q =>
    obtain ⟨all, names⟩ := q
    obtain ⟨all', h2, hperm⟩ := M.planned_perm hp h1
    refine .inr ⟨all, all', names, rfl, h2, ?_⟩
    have hsz := M.size_perm hperm
    by_cases hr : room < M.sizeS all
    · refine .inl ⟨?_, ?_⟩
      · unfold M.installedS; rw [h1]; simp [hr]
      · unfold M.installedS; rw [h2]; simp [← hsz, hr]
    · have hi : M.installedS [] T room = .inr all := by unfold M.installedS; rw [h1]; simp [hr]
      obtain ⟨fr, _, _, _, e3, tg, e5, _⟩ := M.installed_ok hi (fun p hp => by cases hp) M.apart_nil
      refine .inr ⟨hi, ?_, hperm, tg.apart, by rw [e3, List.nil_append, e5]⟩
      unfold M.installedS; rw [h2]; simp [← hsz, hr]
def fC (f : M.Fa) : Array Value := #[.int .i64 f.kind, .int .i64 f.which, .int .i64 f.line, .string ⟨f.name.toArray⟩]
theorem fC_cell {w : World} {b : Nat} {f : M.Fa} (h : w.heap[b]? = some (.cells (fC f) 23 (0, 0))) : w.cell? ⟨b, 0, none⟩ = some (.int .i64 f.kind) ∧ w.cell? ⟨b, 1, none⟩ = some (.int .i64 f.which) ∧ w.cell? ⟨b, 2, none⟩ = some (.int .i64 f.line) ∧ w.cell? ⟨b, 3, none⟩ = some (.string ⟨f.name.toArray⟩) ∧ ∀ o, w.frozen? ⟨b, o, none⟩ = false :=
  ⟨(cell_of_row w _ 0 _ _ (0, 0) h).trans rfl, (cell_of_row w _ 1 _ _ (0, 0) h).trans rfl, (cell_of_row w _ 2 _ _ (0, 0) h).trans rfl, (cell_of_row w _ 3 _ _ (0, 0) h).trans rfl, fun o => frozen_of_row w _ o _ _ h⟩
structure Tw (W : World) (B jf jg x y n : Nat) (F G : Nat → Prop) (l m : List M.Pk) (f g : M.Fa) : Prop where
  x : XF W F x n l
  y : XF W G y n m
  dis : ∀ j, G j → ¬ F j
  fb : W.heap[jf]? = some (.cells (fC f) 23 (0, 0))
  gb : W.heap[jg]? = some (.cells (fC g) 23 (0, 0))
  ne : jf ≠ jg
  hf : 1 < jf
  hg : 1 < jg
  fB : B ≤ jf
  gB : B ≤ jg
  FB : ∀ j, F j → B ≤ j
  GB : ∀ j, G j → B ≤ j
structure Ar (B : Nat) (w w' : World) : Prop where
  low : Below B w w'
  strs : ∀ v l, StrsIn w v l → StrsIn w' v l
theorem Ar.of {F : Nat → Prop} {B : Nat} {w w' : World} (hc : Chg F w w') (hm : Mild F w) (hB : B ≤ w.heap.size) (hF : ∀ j, F j → B ≤ j) : Ar B w w' :=
  ⟨⟨hc.os, hc.tape, hc.output, hc.size, fun j hj => hc.block j (by omega) (fun e => by have := hF j e; omega)⟩, fun _ _ h => strs_chg h hc hm.str⟩
theorem Tw.below {W W' : World} {B jf jg x y n : Nat} {F G : Nat → Prop} {l m : List M.Pk} {f g : M.Fa} (h : Tw W B jf jg x y n F G l m f g) (hb : Below W.heap.size W W') : Tw W' B jf jg x y n F G l m f g :=
  { h with
    x := h.x.below hb
    y := h.y.below hb
    fb := (hb.block _ (Array.getElem?_eq_some_iff.1 h.fb).1).trans h.fb
    gb := (hb.block _ (Array.getElem?_eq_some_iff.1 h.gb).1).trans h.gb }
theorem Tw.size {W : World} {B jf jg x y n : Nat} {F G : Nat → Prop} {l m : List M.Pk} {f g : M.Fa} (h : Tw W B jf jg x y n F G l m f g) : B ≤ W.heap.size := by
  have := (Array.getElem?_eq_some_iff.1 h.fb).1
  have := h.fB
  omega
theorem Tw.swap {W : World} {B jf jg x y n : Nat} {F G : Nat → Prop} {l m : List M.Pk} {f g : M.Fa} (h : Tw W B jf jg x y n F G l m f g) : Tw W B jg jf y x n G F m l g f :=
  ⟨h.y, h.x, fun j a b => h.dis j b a, h.gb, h.fb, h.ne.symm, h.hg, h.hf, h.gB, h.fB, h.GB, h.FB⟩
theorem Tw.setF {W : World} {B jf jg x y n : Nat} {F G : Nat → Prop} {l m : List M.Pk} {f g : M.Fa} (h : Tw W B jf jg x y n F G l m f g) (f' : M.Fa) :
    Tw ((((W.setCell ⟨jf, 0, none⟩ (.int .i64 f'.kind)).setCell ⟨jf, 1, none⟩ (.int .i64 f'.which)).setCell ⟨jf, 2, none⟩ (.int .i64 f'.line)).setCell ⟨jf, 3, none⟩ (.string ⟨f'.name.toArray⟩)) B jf jg x y n F G l m f' g ∧
    Ar B W ((((W.setCell ⟨jf, 0, none⟩ (.int .i64 f'.kind)).setCell ⟨jf, 1, none⟩ (.int .i64 f'.which)).setCell ⟨jf, 2, none⟩ (.int .i64 f'.line)).setCell ⟨jf, 3, none⟩ (.string ⟨f'.name.toArray⟩)) := by
  have hm := flt_mild h.fb h.hf
  obtain ⟨s1, s2⟩ := flt_store h.fb f'.kind f'.which f'.line ⟨f'.name.toArray⟩
  refine ⟨{ h with x := h.x.other s2 hm (fun j hj e => ?_), y := h.y.other s2 hm (fun j hj e => ?_), fb := s1, gb := ?_ }, Ar.of s2 hm h.size (fun j e => by rw [e]; exact h.fB)⟩
  · subst e
    exact h.x.flt h.fb hj
  · subst e
    exact h.y.flt h.fb hj
  · exact (s2.block _ (Array.getElem?_eq_some_iff.1 h.gb).1 (fun e => h.ne e.symm)).trans h.gb
theorem Tw.turnX {W W' : World} {B jf jg x y n : Nat} {F G F' : Nat → Prop} {l m l' : List M.Pk} {f g : M.Fa} (h : Tw W B jf jg x y n F G l m f g) (h1 : XF W' F' x n l') (h2 : Chg F W W') (h3 : ∀ j, F' j → F j ∨ W.heap.size ≤ j) :
    Tw W' B jf jg x y n F' G l' m f g ∧ Ar B W W' := by
  have hm := h.x.mild
  refine ⟨{ h with x := h1, y := h.y.other h2 hm h.dis, dis := fun j hj e => ?_, fb := ?_, gb := ?_, FB := fun j hj => ?_ }, Ar.of h2 hm h.size h.FB⟩
  · rcases h3 j e with e | e
    · exact h.dis j hj e
    · have := h.y.lt hj
      omega
  · exact (h2.block _ (Array.getElem?_eq_some_iff.1 h.fb).1 (h.x.flt h.fb)).trans h.fb
  · exact (h2.block _ (Array.getElem?_eq_some_iff.1 h.gb).1 (h.x.flt h.gb)).trans h.gb
  · rcases h3 j hj with e | e
    · exact h.FB j e
    · have := h.size
      omega
structure RotP (len : Nat) (Rp Rq : Sum M.Fa (List M.Pk × List (List UInt8))) (Ri Rj : Sum M.Fa (List M.Pk)) : Prop where
  names : ∀ a n, Rp = .inr (a, n) → ∃ b, Rq = .inr (b, n)
  plan : (faultP Rp).kind = 0 ↔ (faultP Rq).kind = 0
  lens : lenP Rp = lenP Rq
  most : lenP Rp ≤ len
  inst : (faultI Ri).kind = 0 ↔ (faultI Rj).kind = 0
  texts : txsB (afterI [] Ri) = txsB (afterI [] Rj)
  all : (afterI [] Ri).length = len * (1 - if (faultI Ri).kind = 0 then 0 else 1)
theorem rotP {T T' : List (List UInt8)} (hp : T.Perm T') (room : Int) : RotP T.length (M.plannedS [] T) (M.plannedS [] T') (M.installedS [] T room) (M.installedS [] T' room) := by
  rcases planned_rot hp room with ⟨f, f', h1, h2, h3, h4, h5, h6⟩ | ⟨all, all', names, h1, h2, h⟩
  · rw [h1, h2, h3, h4]
    refine ⟨fun _ _ e => (by cases e), ?_, rfl, Nat.zero_le _, ?_, rfl, ?_⟩
    · simp [faultP, h5, h6]
    · simp [faultI, h5, h6]
    · simp [faultI, afterI, h5]
  · have hm : lenP (.inr (all, names)) ≤ T.length := by
      obtain ⟨_, _, _, _, _, e⟩ := M.planned_ok h1 (fun p hp => by cases hp) M.apart_nil
      exact Nat.le_of_eq e
    rcases h with ⟨h3, h4⟩ | ⟨h3, h4, h5, h6, h7⟩
    · rw [h1, h2, h3, h4]
      refine ⟨fun _ _ e => (by cases e; exact ⟨_, rfl⟩), Iff.rfl, rfl, hm, Iff.rfl, rfl, ?_⟩
      simp [faultI, afterI]
    · rw [h1, h2, h3, h4]
      refine ⟨fun _ _ e => (by cases e; exact ⟨_, rfl⟩), Iff.rfl, rfl, hm, Iff.rfl, ?_, ?_⟩
      · simp only [afterI, txsB]
        rw [M.texts_perm h6 h5]
      · simp [faultI, afterI, h7, M.okFa]
theorem RotP.same {len : Nat} {Rp Rq : Sum M.Fa (List M.Pk × List (List UInt8))} {Ri Rj : Sum M.Fa (List M.Pk)} (h : RotP len Rp Rq Ri Rj) {N1 N2 : List ByteArray} (l1 : lenP Rp = N1.length) (l2 : lenP Rq = N2.length) (e1 : ∀ all names, Rp = .inr (all, names) → N1 = names.map fun n : List UInt8 => (⟨n.toArray⟩ : ByteArray)) (e2 : ∀ all names, Rq = .inr (all, names) → N2 = names.map fun n : List UInt8 => (⟨n.toArray⟩ : ByteArray)) : N1 = N2 := by
  have hl := h.lens
  cases Rp with
  | inl f =>
    have h0 : lenP (.inl f : Sum M.Fa (List M.Pk × List (List UInt8))) = 0 := rfl
    have h1 : N1 = [] := List.length_eq_zero_iff.1 (by omega)
    have h2 : N2 = [] := List.length_eq_zero_iff.1 (by omega)
    rw [h1, h2]
  | inr q =>
    obtain ⟨a, n⟩ := q
    obtain ⟨b, hb⟩ := h.names a n rfl
    rw [e1 a n rfl, e2 b n hb]
end Go.Proofs.YtgnfknjopafngaaGreatDoor
