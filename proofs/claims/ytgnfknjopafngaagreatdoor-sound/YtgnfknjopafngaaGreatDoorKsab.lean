import Derived.Deep.WholeRow
import Derived.Test.YtgnfknjopafngaaGreatDoorKsz
import Derived.Test.YtgnfknjopafngaaGreatDoorKsaa
import Derived.Test.YtgnfknjopafngaaGreatDoorKss
import Derived.Test.YtgnfknjopafngaaGreatDoorKsl
import Derived.Test.YtgnfknjopafngaaGreatDoorKse
namespace Go.Proofs.YtgnfknjopafngaaGreatDoor
open Go.RowKit
theorem DiskIs.diskAt {w : World} {d : Nat} {hv sv lv : Value} {D : M.Dk} (h : DiskIs w d hv sv lv D) : DiskAt w d hv sv lv D.left D.dead D.held D.seen := ⟨h.blk, h.held, h.seen, h.apart⟩
theorem chunks_snoc (t : List UInt8) (j : Nat) : (List.range (j + 1)).flatMap (M.chunk t) = (List.range j).flatMap (M.chunk t) ++ M.chunk t j := by
  rw [List.range_succ, List.flatMap_append]; simp
theorem chunks_len (t : List UInt8) : ∀ j, ((List.range j).flatMap (M.chunk t)).length = 64 * j
  | 0 => rfl
  | j + 1 => by rw [chunks_snoc, List.length_append, chunks_len t j, show (M.chunk t j).length = 64 from M.pad_len _]; omega
theorem BytesAt.below {B b : Nat} {l : List UInt8} {w w' : World} (h : BytesAt B b l w) (hb : Below w.heap.size w w') : BytesAt B b l w' := by
  have key : ∀ p, BuiltAt B b p (l.map byteV) w → BuiltAt B b p (l.map byteV) w' := by
    rintro p ⟨h1, v, h2, h3, h4⟩
    exact ⟨h1, v, (hb.block b (Array.getElem?_eq_some_iff.1 h2).1).trans h2, own_below h3 hb, h4⟩
  rcases h with h | h
  · exact .inl (key _ h)
  · exact .inr (key _ h)
set_option maxRecDepth 100000 in
set_option maxHeartbeats 8000000 in
theorem load_any (k d n half : Nat) (hv sv lv : Value) (D : M.Dk) (t : List UInt8) (w : World) (hk : KnownAt w k d half) (h : DiskIs w d hv sv lv D) (hl : M.Lies D.seen n half t) (h1 : 16 ≤ n) (h2 : n ≤ 256) :
    Calls Tryz.prog 152 #[.pointer (some ⟨k, 0, none⟩), .int .i64 t.length] w fun e w' => e = .returned (.string ⟨t.toArray⟩) ∧ Below w.heap.size w w' := by
  have hsm := hl.small
  have hft := hl.fits
  have hon := hl.one
  have cN := fun wx => sectorsOf_any t.length wx (by omega)
  have hkl : k < w.heap.size := (Array.getElem?_eq_some_iff.1 hk).1
  have HK : Hid (KnownAt w k d half) := hk
  have HD : Hid (DiskIs w d hv sv lv D) := h
  have HL : Hid (M.Lies D.seen n half t) := hl
  have hNj : ∀ j, j < M.secN t.length → 1 + half * ((n - 1) / 2) + j < n := by
    intro j hj
    rcases Nat.lt_or_ge half 1 with h0 | h0
    · have e : half = 0 := by omega
      subst e
      omega
    · have e : half = 1 := by omega
      subst e
      omega
  have cS : ∀ wx, Below w.heap.size w wx → Calls Tryz.prog 185 #[.pointer (some ⟨k, 0, none⟩), .int .i64 half] wx fun e w' => e = .returned (.int .i64 (1 + half * ((n - 1) / 2) : Nat)) ∧ wx = w' := fun wx hb =>
    kStart_any k d half n half wx (KnownAt.below HK.out hb) (by have := (HD.out.below hb).secsOf (by rw [HL.out.len]; omega); rw [HL.out.len] at this; exact this) h1 h2 hon
  have cT : ∀ wx (j : Nat), Below w.heap.size w wx → j < M.secN t.length → Calls Tryz.prog 150 #[.pointer (some ⟨k, 0, none⟩), .int .i64 (((1 + half * ((n - 1) / 2) : Nat) : Int) + (j : Int))] wx fun e w' => e = .returned (.agg ((M.chunk t j).map byteV).toArray) ∧ Below wx.heap.size wx w' := fun wx j hb hj => by
    have hlt : 1 + half * ((n - 1) / 2) + j < D.seen.length := by rw [HL.out.len]; exact hNj j hj
    have c := sector_any k d half (1 + half * ((n - 1) / 2) + j) hv sv lv D.left D.dead D.held D.seen wx (KnownAt.below HK.out hb) (HD.out.below hb).diskAt hlt
    have e : D.seen[1 + half * ((n - 1) / 2) + j] = M.chunk t j := by
      have := HL.out.at_ j hj
      rw [List.getElem?_eq_getElem hlt] at this
      exact Option.some.inj this
    rw [e] at c
    exact c
  have hN : (n - 1) / 2 ≤ 128 := by omega
  have hst : 1 + half * ((n - 1) / 2) ≤ 129 := by
    rcases Nat.lt_or_ge half 1 with h0 | h0
    · have e : half = 0 := by omega
      subst e
      omega
    · have e : half = 1 := by omega
      subst e
      omega
  have hs8 : M.secN t.length ≤ 128 := by omega
  have cR := Tryz.Builder_String_any
  have HT : Hid (((List.range (M.secN t.length)).flatMap (M.chunk t)).take t.length = t) := M.chunks_all t
  clear hk h hl
  generalize hst0 : 1 + half * ((n - 1) / 2) = st at cS cT hst hNj
  clear hst0
  go_enter Tryz.func152, Tryz.ntmps152
  go_wp2_with (first
    | (go_at_call 184; refine (cN _).mono ?_; rintro e w' ⟨rfl, rfl⟩))
  have HI0 : BytesAt w.heap.size w.heap.size [] (w.alloc (.cells #[.pointer none, .slice none 0 0] 217)) := Lib.fresh_isBuilder _ _ w
  have hB : Below w.heap.size w (w.alloc (.cells #[.pointer none, .slice none 0 0] 217)) := (Below.refl _ w).alloc (Nat.le_refl _) _
  generalize w.alloc (.cells #[.pointer none, .slice none 0 0] 217) = A at HI0 hB
  have HI : Hid (BytesAt w.heap.size w.heap.size [] A) := HI0
  clear HI0 cN
  go_loopw [6, 7, 10] (fun _ _ i wr => ∃ j : Nat, i = .int .i64 j ∧ j ≤ M.secN t.length ∧ Hid (BytesAt w.heap.size w.heap.size ((List.range j).flatMap (M.chunk t)) wr ∧ Below w.heap.size w wr)) (fun _ _ i _ => M.secN t.length - (intOf i).toNat)
  case atStart => exact ⟨0, rfl, Nat.zero_le _, HI.out, hB⟩
  case round =>
    obtain ⟨j, rfl, hj, HE⟩ := hrel
    obtain ⟨hE1, hE2⟩ := HE.out
    have hk0 : KnownAt wr k d half := KnownAt.below HK.out hE2
    have q1 : wr.cell? ⟨k, 1, none⟩ = some (.int .i64 half) := (cell_of_row wr _ 1 _ _ (0, 0) hk0).trans rfl
    by_cases hjl : j < M.secN t.length
    · have cS' := cS wr hE2
      have cT' := cT wr j hE2 hjl
      have h64 : (M.chunk t j).length = 64 := M.pad_len _
      have hSC : ∀ (W : World) (c : Array Value), c.size = 64 → (storeCells ⟨W.heap.size, 0, none⟩ (List.map byteV (M.chunk t j)) 0).run Tryz.prog (W.alloc (.cells c 242)) = .ok () (W.alloc (.cells (List.map byteV (M.chunk t j)).toArray 242)) := fun W c hc =>
        run_storeCells_new W 242 c (List.map byteV (M.chunk t j)).toArray (by rw [arrSize]; simp [h64]) (by rw [hc]; simp [h64]) (by simp [byteV, Value.oneCell'])
      clear hk0 hE1
      go_wp2_with (first
        | (go_at_call 185; refine cS'.mono ?_; rintro e w' ⟨rfl, rfl⟩)
        | (go_at_call 150; refine cT'.mono ?_; rintro e w2 ⟨rfl, hb2⟩)
        | (go_at_call 186
           have hg : ∀ i u, ((M.chunk t j).map byteV)[i]? = some u → (w2.alloc (.cells (List.map byteV (M.chunk t j)).toArray 242)).cell? ⟨w2.heap.size, i, none⟩ = some u := fun i u hu => new_at w2 _ _ i u hu
           have hbA : Below wr.heap.size wr (w2.alloc (.cells (List.map byteV (M.chunk t j)).toArray 242)) := hb2.alloc hb2.size _
           have hbs : w2.heap.size < (w2.alloc (.cells (List.map byteV (M.chunk t j)).toArray 242)).heap.size := by simp
           generalize w2.alloc (.cells (List.map byteV (M.chunk t j)).toArray 242) = A2 at hg hbA hbs ⊢
           have hws : w.heap.size < w2.heap.size := by
             have := hb2.size
             have h5 : w.heap.size < wr.heap.size := by
               rcases HE.out.1 with h | h
               · exact h.lt
               · exact h.lt
             omega
           have cW := bWrite_any w.heap.size w.heap.size w2.heap.size 64 _ _ A2 (HE.out.1.below hbA) (by omega) hg (by omega) (by rw [chunks_len, h64]; omega)
           rw [h64, ← chunks_snoc] at cW
           refine cW.mono ?_
           rintro e w3 ⟨⟨v3, rfl⟩, h31, h32⟩
           have HF : Hid (BytesAt w.heap.size w.heap.size ((List.range (j + 1)).flatMap (M.chunk t)) w3 ∧ Below w.heap.size w w3) := ⟨h31, (hE2.trans (hbA.mono hE2.size)).trans h32⟩
           clear h31 h32 hg hbA hbs cW))
      refine ⟨⟨j + 1, rfl, hjl, HF.out⟩, ?_⟩
      simp only [intOf]
      omega
    · have e : j = M.secN t.length := by omega
      subst e
      have hlL : ((List.range (M.secN t.length)).flatMap (M.chunk t)).length = 64 * M.secN t.length := chunks_len t _
      have hle : t.length ≤ 64 * M.secN t.length := by unfold M.secN; omega
      generalize (List.range (M.secN t.length)).flatMap (M.chunk t) = L at hE1 HT hlL
      rw [← hlL] at hle
      clear hlL HE
      have cR' := cR w.heap.size w.heap.size _ wr hE1 hE2.size
      clear hE1 hk0
      go_wp2_with (first
        | (go_at_call 144; refine cR'.mono ?_; rintro e w2 ⟨rfl, hb2⟩))
      go_ret
      refine ⟨?_, hE2.trans hb2⟩
      show Ending.returned (.string ((⟨L.toArray⟩ : ByteArray).extract 0 t.length)) = _
      congr 2
      rw [ByteArray.ext_iff, ByteArray.data_extract]
      apply Array.toList_inj.1
      rw [Array.toList_extract]
      exact HT.out
end Go.Proofs.YtgnfknjopafngaaGreatDoor
namespace Go.Proofs.YtgnfknjopafngaaGreatDoor
namespace M
def Clean : List UInt8 → Prop
  | [] => False
  | [a] => a ≠ 10
  | a :: b :: r => ¬ (a = 10 ∧ b = 10) ∧ Clean (b :: r)
theorem Clean.ne {t : List UInt8} (h : Clean t) : t ≠ [] := fun e => by rw [e] at h; exact h
theorem cut2_hit : ∀ (t cur rest : List UInt8) (n m : Nat), Clean t → (t ++ 10 :: 10 :: rest).length ≤ n → rest.length ≤ m → cutA [10, 10] n cur (t ++ 10 :: 10 :: rest) = (cur ++ t) :: cutA [10, 10] m [] rest
  | [], cur, rest, n, m, h, _, _ => h.elim
  | [a], cur, rest, n, m, h, hn, hm => by
    have h1 : a ≠ 10 := h
    simp only [List.cons_append, List.nil_append, List.length_cons] at hn
    rw [List.singleton_append, cutA_miss (by simp) n (n - 1) cur (a :: 10 :: 10 :: rest) (by simp; omega) (by simp; omega) (by simp) (by simp [h1])]
    rw [List.take_succ_cons, List.take_zero, List.drop_succ_cons, List.drop_zero, cutA_hit (by simp) (n - 1) m _ _ (by simp; omega) (by simpa using hm) (by simp) (by simp)]
    simp
  | a :: b :: r, cur, rest, n, m, h, hn, hm => by
    obtain ⟨h1, h2⟩ := h
    simp only [List.cons_append, List.length_cons] at hn
    have e : (a :: b :: r) ++ 10 :: 10 :: rest = a :: ((b :: r) ++ 10 :: 10 :: rest) := rfl
    rw [e, cutA_miss (by simp) n (n - 1) cur _ (by simp only [List.length_cons, List.length_append] at hn ⊢; omega) (by simp only [List.drop_succ_cons, List.drop_zero, List.length_cons, List.length_append] at hn ⊢; omega) (by simp) (by simpa using h1)]
    rw [List.take_succ_cons, List.take_zero, List.drop_succ_cons, List.drop_zero, cut2_hit (b :: r) (cur ++ [a]) rest (n - 1) m h2 (by simp only [List.length_cons, List.length_append] at hn ⊢; omega) hm]
    simp
theorem cut2_end : ∀ (t cur : List UInt8) (n : Nat), Clean t → t.length ≤ n → cutA [10, 10] n cur t = [cur ++ t]
  | [], cur, n, h, _ => h.elim
  | [a], cur, n, _, _ => cutA_stop n cur [a] (by simp)
  | a :: b :: r, cur, n, h, hn => by
    obtain ⟨h1, h2⟩ := h
    simp only [List.length_cons] at hn
    rw [cutA_miss (by simp) n (n - 1) cur _ (by simp; omega) (by simp; omega) (by simp) (by simpa using h1)]
    rw [List.take_succ_cons, List.take_zero, List.drop_succ_cons, List.drop_zero, cut2_end (b :: r) (cur ++ [a]) (n - 1) h2 (by simp; omega)]
    simp
theorem cut2_join : ∀ (l : List (List UInt8)), l ≠ [] → (∀ s ∈ l, Clean s) → cutS (joinS [10, 10] l) [10, 10] = l
  | [], h, _ => absurd rfl h
  | [x], _, h => by
    unfold cutS
    rw [show joinS [10, 10] [x] = x from rfl, cut2_end x [] _ (h x (by simp)) (Nat.le_refl _)]
    rfl
  | x :: y :: r, _, h => by
    have e : joinS [10, 10] (x :: y :: r) = x ++ 10 :: 10 :: joinS [10, 10] (y :: r) := by simp [joinS]
    have ih := cut2_join (y :: r) (by simp) (fun s hs => h s (by simp [hs]))
    unfold cutS at ih ⊢
    rw [e, cut2_hit x [] _ _ (joinS [10, 10] (y :: r)).length (h x (by simp)) (Nat.le_refl _) (Nat.le_refl _), ih]
    rfl
theorem clean_line : ∀ (t : List UInt8), t ≠ [] → (10 : UInt8) ∉ t → Clean t
  | [], h, _ => absurd rfl h
  | [a], _, h => fun e => h (by simp [e])
  | a :: b :: r, _, h => ⟨fun e => h (by simp [e.1]), clean_line (b :: r) (by simp) (fun e => h (List.mem_cons_of_mem _ e))⟩
theorem clean_app : ∀ (t r : List UInt8) (b : UInt8), t ≠ [] → (10 : UInt8) ∉ t → b ≠ 10 → Clean (b :: r) → Clean (t ++ 10 :: b :: r)
  | [], _, _, h, _, _, _ => absurd rfl h
  | [a], r, b, _, h, hb, hr => ⟨fun e => h (by simp [e.1]), fun e => hb e.2, hr⟩
  | a :: c :: t, r, b, _, h, hb, hr => ⟨fun e => h (by simp [e.1]), clean_app (c :: t) r b (by simp) (fun e => h (List.mem_cons_of_mem _ e)) hb hr⟩
theorem clean_join : ∀ (l : List (List UInt8)), l ≠ [] → (∀ s ∈ l, s ≠ [] ∧ (10 : UInt8) ∉ s) → Clean (joinS [10] l) ∧ ∃ b r, joinS [10] l = b :: r ∧ b ≠ 10
  | [], h, _ => absurd rfl h
  | [x], _, h => by
    obtain ⟨h1, h2⟩ := h x (by simp)
    refine ⟨clean_line x h1 h2, ?_⟩
    cases x with
    | nil => exact absurd rfl h1
    | cons b r => exact ⟨b, r, rfl, fun e => h2 (by simp [e])⟩
  | x :: y :: r, _, h => by
    obtain ⟨h1, h2⟩ := h x (by simp)
    obtain ⟨k1, b, s, k2, k3⟩ := clean_join (y :: r) (by simp) (fun s hs => h s (by simp [hs]))
    have e : joinS [10] (x :: y :: r) = x ++ 10 :: joinS [10] (y :: r) := by simp [joinS]
    rw [e]
    rw [k2] at k1 ⊢
    refine ⟨clean_app x s b h1 h2 k3 k1, ?_⟩
    cases x with
    | nil => exact absurd rfl h1
    | cons c r => exact ⟨c, _, rfl, fun e => h2 (by simp [e])⟩
theorem lineS_nil (p : Pk) (k : Nat) : lineS p k [] = none := by
  unfold lineS
  split
  · rfl
  · rw [if_neg (fun h => absurd h.1 (by decide)), if_neg (fun h => absurd h.1 (by decide)), if_neg (fun h => absurd h.1 (by decide))]
theorem lines_ne : ∀ (l : List (List UInt8)) (k : Nat) (p q : Pk), linesS l k p = .inr q → ∀ x ∈ l, x ≠ []
  | [], _, _, _, _, x, hx => by cases hx
  | a :: l, k, p, q, h, x, hx => by
    unfold linesS at h
    cases hp : lineS p k a with
    | none => rw [hp] at h; cases h
    | some p' =>
      rw [hp] at h
      rcases List.mem_cons.1 hx with rfl | hx
      · intro e
        rw [e, lineS_nil] at hp
        cases hp
      · exact lines_ne l (k + 1) p' q h x hx
theorem print_clean {s : List UInt8} {p : Pk} (h : readS s = .inr p) : Clean (printS p) := by
  obtain ⟨_, h, _⟩ := read_print h
  have hb := h
  generalize hs : printS p = t at h ⊢
  unfold readS at h
  split at h
  · cases h
  · split at h
    · cases h
    · rename_i q e
      cases h
      have hne : cutS (trimS t) [10] ≠ [] := fun e => by have := (cutS_len (trimS t) [10]).1; rw [e] at this; simp at this
      obtain ⟨hv, hpr, ht⟩ := whole_valid hne e
      have hlen : (printS { q with files := sortF q.files }).length = (printS q).length := by
        unfold printS
        simp only [List.length_append]
        rw [sum_perm_len (sortF_perm q.files)]
      have hc := (clean_join (cutS (trimS t) [10]) hne (fun x hx => ⟨lines_ne _ _ _ _ e x hx, cut_no _ _ (Nat.le_refl _) x hx⟩)).1
      rw [join_cut] at hpr hc
      have : trimS t = t := by
        rw [hs, hpr] at hlen
        unfold trimS at hlen ⊢
        split
        · rename_i h1
          rw [if_pos h1] at hlen
          have : t ≠ [] := fun e => by rw [e] at h1; cases h1
          have : 0 < t.length := List.length_pos_iff.2 this
          rw [List.length_dropLast] at hlen
          omega
        · rfl
      rw [this] at hc
      exact hc
theorem print_long {s : List UInt8} {p : Pk} (h : readS s = .inr p) : 11 ≤ (printS p).length := by
  obtain ⟨_, h, _⟩ := read_print h
  unfold readS at h
  split at h
  · cases h
  · split at h
    · cases h
    · rename_i q e
      cases h
      have hne : cutS (trimS (printS { q with files := sortF q.files })) [10] ≠ [] := fun e => by have := (cutS_len (trimS (printS { q with files := sortF q.files })) [10]).1; rw [e] at this; simp at this
      obtain ⟨hv, hpr, ht⟩ := whole_valid hne e
      have h1 : q.name ≠ [] := title_ne ht
      have h2 : q.ver ≠ [] := by
        unfold titleS at ht
        split at ht
        · split at ht
          · rename_i hc
            cases ht
            intro e2
            have h3 := hc.2.2
            rw [e2] at h3
            revert h3
            decide
          · cases ht
        · cases ht
      have k1 := List.length_pos_iff.2 h1
      have k2 := List.length_pos_iff.2 h2
      unfold printS
      simp only [List.length_append, List.length_cons, List.length_nil]
      omega
theorem join2_len : ∀ (l : List (List UInt8)), (∀ s ∈ l, 11 ≤ s.length) → 11 * (joinS [10, 10] l).length ≤ 13 * (l.map List.length).sum
  | [], _ => by simp [joinS]
  | [x], _ => by simp [joinS]; omega
  | x :: y :: r, h => by
    have ih := join2_len (y :: r) (fun s hs => h s (by simp [hs]))
    have hx := h x (by simp)
    have e : joinS [10, 10] (x :: y :: r) = x ++ [10, 10] ++ joinS [10, 10] (y :: r) := rfl
    rw [e, List.map_cons, List.sum_cons]
    simp only [List.length_append, List.length_cons, List.length_nil]
    omega
theorem join2_nil {l : List (List UInt8)} (h : ∀ s ∈ l, Clean s) : joinS [10, 10] l = [] ↔ l = [] := by
  constructor
  · intro e
    cases l with
    | nil => rfl
    | cons x r =>
      have hx := (h x (by simp)).ne
      cases r with
      | nil => exact absurd e hx
      | cons y r => simp [joinS] at e
  · rintro rfl; rfl
end M
end Go.Proofs.YtgnfknjopafngaaGreatDoor
namespace Go.Proofs.YtgnfknjopafngaaGreatDoor
namespace M
def Back (p : Pk) : Prop := readS (printS p) = .inr p
theorem Back.name {p : Pk} (h : Back p) : p.name ≠ [] := (read_good h).2
theorem Back.good {p : Pk} (h : Back p) : Good p := (read_good h).1
theorem Back.of {s : List UInt8} {p : Pk} (h : readS s = .inr p) : Back p := (read_print h).2.1
structure Tog (l : List Pk) : Prop where
  back : ∀ p ∈ l, Back p
  apart : Apart l
  lack : lackingS l = []
  bar : barringS l = []
  clash : clashingS l = []
theorem apart_nil : Apart [] := List.nodup_nil
theorem tog_nil : Tog [] := ⟨fun p hp => (by cases hp), apart_nil, rfl, rfl, rfl⟩
theorem paths_ne {l : List Pk} (hb : ∀ p ∈ l, Back p) : ∀ p ∈ l, ∀ f ∈ p.files, f.path ≠ [] := fun p hp f hf => (hb p hp).good.paths f hf
theorem barring_nil {l : List Pk} (ha : Apart l) (hb : ∀ p ∈ l, Back p) : barringS l = [] ↔ ∀ p ∈ l, ¬ Bars l p := by
  rw [(barring_min ha (fun p hp => (hb p hp).name)).nil_iff]
  constructor
  · intro h p hp hB
    exact h p.name ⟨p, hp, hB, rfl⟩
  · rintro h x ⟨p, hp, hB, _⟩
    exact h p hp hB
theorem clashing_nil {l : List Pk} (ha : Apart l) (hb : ∀ p ∈ l, Back p) : clashingS l = [] ↔ ∀ x, ¬ Clashes l x := (clashing_min ha (paths_ne hb)).nil_iff
theorem barring_sub {l k : List Pk} (ha : Apart l) (hk : Apart k) (hb : ∀ p ∈ l, Back p) (hs : ∀ p ∈ k, p ∈ l) (h : barringS l = []) : barringS k = [] := by
  rw [barring_nil hk (fun p hp => hb p (hs p hp))]
  rw [barring_nil ha hb] at h
  rintro p hp ⟨q, hq, h1, h2⟩
  exact h p (hs p hp) ⟨q, hs q hq, h1, h2⟩
theorem clashing_sub {l k : List Pk} (ha : Apart l) (hk : Apart k) (hb : ∀ p ∈ l, Back p) (hs : ∀ p ∈ k, p ∈ l) (h : clashingS l = []) : clashingS k = [] := by
  rw [clashing_nil hk (fun p hp => hb p (hs p hp))]
  rw [clashing_nil ha hb] at h
  rintro x ⟨p, hp, q, hq, f, hf, g, hg, h1⟩
  exact h x ⟨p, hs p hp, q, hs q hq, f, hf, g, hg, h1⟩
theorem checked_ok {there fresh all all' : List Pk} {names : List (List UInt8)} (h : checkedS there fresh all = .inr (all', names)) :
    all' = all ∧ lackingS all = [] ∧ barringS all = [] ∧ clashingS all = [] ∧ firstOf (orderS there fresh.length fresh []).2 = [] ∧ names = (orderS there fresh.length fresh []).1 := by
  unfold checkedS at h
  split at h
  · cases h
  · split at h
    · cases h
    · split at h
      · cases h
      · split at h
        · cases h
        · rename_i h1 h2 h3 h4
          cases h
          exact ⟨rfl, Classical.not_not.1 h1, Classical.not_not.1 h2, Classical.not_not.1 h3, Classical.not_not.1 h4, rfl⟩
theorem order_sum (there : List Pk) : ∀ (n : Nat) (l : List Pk) (out : List (List UInt8)), (orderS there n l out).1.length + (orderS there n l out).2.length = out.length + l.length
  | 0, l, out => rfl
  | n + 1, l, out => by
    unfold orderS
    split
    · rfl
    · split
      · rfl
      · rename_i k hk
        have hlt := (List.findIdx?_eq_some_iff_getElem.1 hk).1
        rw [order_sum there n]
        simp only [List.length_append, List.length_take, List.length_drop, List.length_cons, List.length_nil]
        omega
theorem order_sub (there : List Pk) : ∀ (n : Nat) (l : List Pk) (out : List (List UInt8)), ∀ p ∈ (orderS there n l out).2, p ∈ l
  | 0, l, out, p, hp => hp
  | n + 1, l, out, p, hp => by
    unfold orderS at hp
    split at hp
    · exact hp
    · split at hp
      · exact hp
      · have := order_sub there n _ _ p hp
        rcases List.mem_append.1 this with h | h
        · exact List.mem_of_mem_take h
        · exact List.mem_of_mem_drop h
theorem firstOf_nil {l : List Pk} (hn : ∀ p ∈ l, p.name ≠ []) : firstOf l = [] ↔ l = [] := by
  rw [(firstOf_min hn).nil_iff]
  constructor
  · intro h
    exact List.eq_nil_iff_forall_not_mem.2 (fun p hp => h p.name ⟨p, hp, rfl⟩)
  · rintro rfl x ⟨p, hp, _⟩
    cases hp
theorem planned_ok {there all : List Pk} {texts names : List (List UInt8)} (h : plannedS there texts = .inr (all, names)) (ht : ∀ p ∈ there, Back p) (ha : Apart there) :
    ∃ fresh, readAllS texts 0 [] = .inr fresh ∧ all = there ++ fresh ∧ Tog all ∧ fresh.length = texts.length ∧ names.length = texts.length := by
  unfold plannedS at h
  cases hr : readAllS texts 0 [] with
  | inl f => rw [hr] at h; cases h
  | inr fresh =>
    rw [hr] at h
    simp only at h
    cases hq : addAllS fresh 0 there with
    | inl f => rw [hq] at h; cases h
    | inr al =>
      rw [hq] at h
      simp only at h
      have e := addAll_is _ _ _ _ hq
      have hap := addAll_apart _ _ _ _ hq ha
      obtain ⟨rfl, h1, h2, h3, h4, h5⟩ := checked_ok h
      have hlen : fresh.length = texts.length := by have := readAll_len _ _ _ _ hr; simpa using this
      have hfb : ∀ p ∈ fresh, Back p := fun p hp => by
        rcases readAll_mem _ _ _ _ hr p hp with k | ⟨t, _, k⟩
        · cases k
        · exact Back.of k
      refine ⟨fresh, rfl, e, ⟨?_, hap, h1, h2, h3⟩, hlen, ?_⟩
      · intro p hp
        rw [e] at hp
        exact (List.mem_append.1 hp).elim (ht p) (hfb p)
      · have hl := (firstOf_nil (fun p hp => (hfb p (order_sub there _ _ _ p hp)).name)).1 h4
        have := order_sum there fresh.length fresh []
        rw [hl] at this
        rw [h5, ← hlen]
        simpa using this
theorem plan_none {l : List Pk} (h : Tog l) : plannedS l [] = .inr (l, []) := by
  unfold plannedS readAllS addAllS checkedS
  simp only
  rw [if_neg (by rw [h.lack]; simp), if_neg (by rw [h.bar]; simp), if_neg (by rw [h.clash]; simp), if_neg (by simp [orderS, firstOf])]
  rfl
theorem installed_ok {there all : List Pk} {texts : List (List UInt8)} {room : Int} (h : installedS there texts room = .inr all) (ht : ∀ p ∈ there, Back p) (ha : Apart there) :
    ∃ fresh names, plannedS there texts = .inr (all, names) ∧ readAllS texts 0 [] = .inr fresh ∧ all = there ++ fresh ∧ Tog all ∧ fresh.length = texts.length ∧ (sizeS all : Int) ≤ room := by
  unfold installedS at h
  cases hp : plannedS there texts with
  | inl f => rw [hp] at h; cases h
  | inr q =>
    obtain ⟨al, names⟩ := q
    rw [hp] at h
    simp only at h
    split at h
    · cases h
    · cases h
      obtain ⟨fresh, h1, h2, h3, h4, _⟩ := planned_ok hp ht ha
      exact ⟨fresh, names, rfl, h1, h2, h3, h4, by omega⟩
theorem dropAll_sub : ∀ (ns : List (List UInt8)) (i : Nat) (l all : List Pk), dropAllS ns i l = .inr all → all.Sublist l
  | [], i, l, all, h => by simp only [dropAllS, Sum.inr.injEq] at h; subst h; exact List.Sublist.refl _
  | n :: ns, i, l, all, h => by
    simp only [dropAllS] at h
    split at h
    · cases h
    · rename_i k hk
      refine (dropAll_sub ns _ _ _ h).trans ?_
      have e : l = l.take k ++ l.drop k := (List.take_append_drop k l).symm
      conv => rhs; rw [e]
      exact List.Sublist.append (List.Sublist.refl _) (by rw [← List.drop_drop]; exact List.drop_sublist _ _)
theorem size_sub {l k : List Pk} (h : k.Sublist l) : sizeS k ≤ sizeS l := by
  unfold sizeS
  induction h with
  | slnil => exact Nat.le_refl _
  | cons a _ ih => simp only [List.map_cons, List.sum_cons]; omega
  | cons_cons a _ ih => simp only [List.map_cons, List.sum_cons]; omega
theorem removed_ok {there all : List Pk} {names : List (List UInt8)} (h : removedS there names = .inr all) (ht : Tog there) : Tog all ∧ all.Sublist there ∧ sizeS all ≤ sizeS there := by
  unfold removedS at h
  cases hd : dropAllS names 0 there with
  | inl f => rw [hd] at h; cases h
  | inr al =>
    rw [hd] at h
    simp only at h
    split at h
    · cases h
    · rename_i hl
      cases h
      have hs := dropAll_sub _ _ _ _ hd
      have hap : Apart all := List.Nodup.sublist (hs.map Pk.name) ht.apart
      exact ⟨⟨fun p hp => ht.back p (hs.subset hp), hap, Classical.not_not.1 hl, barring_sub ht.apart hap ht.back (fun p hp => hs.subset hp) ht.bar, clashing_sub ht.apart hap ht.back (fun p hp => hs.subset hp) ht.clash⟩, hs, size_sub hs⟩
theorem owner_one {l : List Pk} (h : Tog l) {p : Pk} (hp : p ∈ l) {x : List UInt8} (hx : (p.files.any fun f => f.path == x) = true) : ownerS l x = p.name := by
  unfold ownerS
  cases hf : l.find? (fun p => p.files.any fun f => f.path == x) with
  | none => exact absurd hx (by simpa using List.find?_eq_none.1 hf p hp)
  | some q =>
    have hq := List.mem_of_find?_eq_some hf
    have hqx := List.find?_some hf
    simp only
    by_cases e : q.name = p.name
    · exact e
    · exfalso
      obtain ⟨f, hf1, hf2⟩ := List.any_eq_true.1 hx
      obtain ⟨g, hg1, hg2⟩ := List.any_eq_true.1 hqx
      have hc := (clashing_nil h.apart h.back).1 h.clash x
      refine hc ⟨p, hp, q, hq, f, hf1, g, hg1, .inr ⟨?_, fun e2 => e e2.symm⟩, ?_⟩
      · rw [eq_of_beq hf2, eq_of_beq hg2]
      · exact (eq_of_beq hf2).symm
def rdO (t : List UInt8) : Option Pk := match readS t with
  | .inl _ => none
  | .inr p => some p
theorem readAll_iff : ∀ (ts : List (List UInt8)) (i : Nat) (acc l : List Pk), readAllS ts i acc = .inr l ↔ (∀ t ∈ ts, (rdO t).isSome = true) ∧ l = acc ++ ts.filterMap rdO
  | [], i, acc, l => by
    simp only [readAllS, Sum.inr.injEq]
    constructor
    · rintro rfl; simp
    · rintro ⟨_, rfl⟩; simp
  | t :: ts, i, acc, l => by
    simp only [readAllS]
    cases hr : readS t with
    | inl n =>
      simp only
      constructor
      · intro h; cases h
      · intro h
        have := h.1 t (by simp)
        simp [rdO, hr] at this
    | inr p =>
      simp only
      rw [readAll_iff ts (i + 1) (acc ++ [p]) l]
      have e : rdO t = some p := by simp [rdO, hr]
      rw [List.filterMap_cons, e]
      simp only [List.append_assoc, List.singleton_append, List.mem_cons, forall_eq_or_imp, e, Option.isSome_some, true_and]
theorem addAll_iff : ∀ (ps : List Pk) (i : Nat) (acc all : List Pk), Apart acc → (addAllS ps i acc = .inr all ↔ Apart (acc ++ ps) ∧ all = acc ++ ps)
  | [], i, acc, all, h => by
    simp only [addAllS, Sum.inr.injEq, List.append_nil]
    constructor
    · rintro rfl; exact ⟨h, rfl⟩
    · rintro ⟨_, rfl⟩; rfl
  | p :: ps, i, acc, all, h => by
    simp only [addAllS]
    by_cases hp : 0 ≤ findS acc p.name
    · rw [if_pos hp]
      constructor
      · intro h; cases h
      · rintro ⟨h1, _⟩
        exfalso
        have hex : ¬ ∀ q ∈ acc, q.name ≠ p.name := fun e => absurd hp (find_neg.2 e)
        refine hex (fun q hq e => ?_)
        unfold Apart at h1
        rw [List.map_append, List.nodup_append] at h1
        exact h1.2.2 q.name (List.mem_map.2 ⟨q, hq, rfl⟩) p.name (by simp) e
    · rw [if_neg hp]
      have hap : Apart (acc ++ [p]) := by
        have := find_neg.1 hp
        unfold Apart at h ⊢
        rw [List.map_append, List.nodup_append]
        refine ⟨h, by simp, fun a ha b hb e => ?_⟩
        obtain ⟨q, hq, rfl⟩ := List.mem_map.1 ha
        simp only [List.map_cons, List.map_nil, List.mem_singleton] at hb
        exact this q hq (e.trans hb)
      rw [addAll_iff ps (i + 1) (acc ++ [p]) all hap]
      simp only [List.append_assoc, List.singleton_append]
end M
end Go.Proofs.YtgnfknjopafngaaGreatDoor
namespace Go.Proofs.YtgnfknjopafngaaGreatDoor
namespace M
def packed (l : List Pk) : List UInt8 := joinS [10, 10] (textsS l)
theorem texts_mem {l : List Pk} (ha : Apart l) {t : List UInt8} (h : t ∈ textsS l) : ∃ p ∈ l, t = printS p := by
  unfold textsS at h
  obtain ⟨n, hn, rfl⟩ := List.mem_map.1 h
  obtain ⟨p, hp, rfl⟩ := List.mem_map.1 ((sortN_perm _).mem_iff.1 hn)
  exact ⟨p, hp, textOf_mem ha hp⟩
theorem texts_prints {l : List Pk} (ha : Apart l) : (textsS l).Perm (l.map printS) := by
  unfold textsS
  refine ((sortN_perm _).map _).trans ?_
  rw [List.map_map]
  have : l.map (textOf l ∘ Pk.name) = l.map printS := List.map_congr_left (fun p hp => textOf_mem ha hp)
  rw [this]
theorem texts_len (l : List Pk) : (textsS l).length = l.length := by
  unfold textsS
  rw [List.length_map, (sortN_perm _).length_eq, List.length_map]
theorem texts_clean {l : List Pk} (hb : ∀ p ∈ l, Back p) (ha : Apart l) : ∀ s ∈ textsS l, Clean s := fun s hs => by
  obtain ⟨p, hp, rfl⟩ := texts_mem ha hs
  exact print_clean (hb p hp)
theorem packed_cut {l : List Pk} (hb : ∀ p ∈ l, Back p) (ha : Apart l) (hne : l ≠ []) : cutS (packed l) [10, 10] = textsS l ∧ packed l ≠ [] := by
  have h0 : textsS l ≠ [] := fun e => hne (List.length_eq_zero_iff.1 (by rw [← texts_len l, e]; rfl))
  exact ⟨cut2_join _ h0 (texts_clean hb ha), fun e => h0 ((join2_nil (texts_clean hb ha)).1 e)⟩
theorem texts_size {l : List Pk} (ha : Apart l) : ((textsS l).map List.length).sum = sizeS l := by
  rw [((texts_prints ha).map _).sum_nat, List.map_map]
  rfl
theorem packed_len {l : List Pk} (hb : ∀ p ∈ l, Back p) (ha : Apart l) : 11 * (packed l).length ≤ 13 * sizeS l := by
  rw [← texts_size ha]
  exact join2_len _ (fun s hs => by obtain ⟨p, hp, rfl⟩ := texts_mem ha hs; exact print_long (hb p hp))
theorem packed_fits {l : List Pk} {n : Nat} (hb : ∀ p ∈ l, Back p) (ha : Apart l) (h1 : 16 ≤ n) (h2 : n ≤ 256) (hs : (sizeS l : Int) ≤ 24 * ((n : Int) - 8)) : secN (packed l).length ≤ (n - 1) / 2 ∧ (packed l).length < 65536 := by
  have h := packed_len hb ha
  unfold secN
  constructor
  · omega
  · omega
theorem size_long {l : List Pk} (hb : ∀ p ∈ l, Back p) : 11 * l.length ≤ sizeS l := by
  unfold sizeS
  induction l with
  | nil => simp
  | cons p l ih =>
    have h1 := print_long (hb p (by simp))
    have h2 := ih (fun q hq => hb q (by simp [hq]))
    simp only [List.map_cons, List.sum_cons, List.length_cons]
    omega
theorem found_texts {l : List Pk} (hb : ∀ p ∈ l, Back p) (ha : Apart l) : ∃ m, readAllS (textsS l) 0 [] = .inr m ∧ m.Perm l ∧ addAllS m 0 [] = .inr m := by
  have hrd : ∀ p ∈ l, rdO (printS p) = some p := fun p hp => by
    have := hb p hp
    unfold Back at this
    simp [rdO, this]
  have e : (l.map printS).filterMap rdO = l := by
    clear ha
    induction l with
    | nil => rfl
    | cons p l ih =>
      rw [List.map_cons, List.filterMap_cons, hrd p (by simp)]
      simp only
      rw [ih (fun q hq => hb q (by simp [hq])) (fun q hq => hrd q (by simp [hq]))]
  have hp : ((textsS l).filterMap rdO).Perm l := by
    have := (texts_prints ha).filterMap rdO
    rwa [e] at this
  refine ⟨(textsS l).filterMap rdO, (readAll_iff _ _ _ _).2 ⟨fun t ht => ?_, by simp⟩, hp, (addAll_iff _ _ _ _ apart_nil).2 ⟨by simpa using ha.perm hp.symm, by simp⟩⟩
  obtain ⟨p, hp, rfl⟩ := texts_mem ha ht
  rw [hrd p hp]
  rfl
end M
end Go.Proofs.YtgnfknjopafngaaGreatDoor
