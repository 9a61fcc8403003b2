import Derived.Test.YtgnfknjopafngaaGreatDoorKsam
import Derived.Laws.FloatArith
namespace Go.Proofs.YtgnfknjopafngaaGreatDoor
open Go.RowKit Go.Maps
set_option maxRecDepth 100000 in
set_option maxHeartbeats 1000000 in
theorem sOwner_any (s k b : Nat) (S : ByteArray) (l : List M.Pk) (w : World) (hs : StoreAt w s k b) (hl : SetIn w b l) (hr : ∀ p ∈ l, ReadP p) :
    Calls Tryz.prog 81 #[.pointer (some ⟨s, 0, none⟩), .string S] w (OwnerPost l S.data.toList w) := by
  have cA := qowner_any b S l w hl hr
  have q1 : w.cell? ⟨s, 1, none⟩ = some (.map (some b)) := (cell_of_row w _ 1 _ _ (0, 0) hs).trans rfl
  clear hs hl hr
  go_enter Tryz.func81, Tryz.ntmps81
  go_wp2_with fail
  refine cA.mono ?_
  rintro e w2 ⟨hB2, ⟨p, hp, hf, rfl⟩ | ⟨hf, rfl⟩⟩
  · have HF : Hid (p ∈ l ∧ ∃ f ∈ p.files, f.path = S.data.toList) := ⟨hp, hf⟩
    clear hp hf cA
    go_wp2
    go_ret2
    exact ⟨hB2, .inl ⟨p, HF.out.1, HF.out.2, rfl⟩⟩
  · have HF : Hid (∀ p ∈ l, ∀ f ∈ p.files, f.path ≠ S.data.toList) := hf
    clear hf cA
    go_wp2
    go_ret2
    exact ⟨hB2, .inr ⟨HF.out, rfl⟩⟩
set_option maxRecDepth 100000 in
set_option maxHeartbeats 1000000 in
theorem xOwner_any (x d s k b : Nat) (S : ByteArray) (l : List M.Pk) (w : World) (hx : SessAt w x d (.pointer (some ⟨s, 0, none⟩))) (hs : StoreAt w s k b) (hl : SetIn w b l) (hr : ∀ p ∈ l, ReadP p) :
    Calls Tryz.prog 53 #[.pointer (some ⟨x, 0, none⟩), .string S] w (OwnerPost l S.data.toList w) := by
  have cA := sOwner_any s k b S l w hs hl hr
  have q1 : w.cell? ⟨x, 1, none⟩ = some (.pointer (some ⟨s, 0, none⟩)) := (cell_of_row w _ 1 _ _ (0, 0) hx).trans rfl
  clear hs hl hr hx
  go_enter Tryz.func53, Tryz.ntmps53
  go_wp2_with fail
  refine cA.mono ?_
  rintro e w2 ⟨hB2, ⟨p, hp, hf, rfl⟩ | ⟨hf, rfl⟩⟩
  · have HF : Hid (p ∈ l ∧ ∃ f ∈ p.files, f.path = S.data.toList) := ⟨hp, hf⟩
    clear hp hf cA
    go_wp2
    go_ret2
    exact ⟨hB2, .inl ⟨p, HF.out.1, HF.out.2, rfl⟩⟩
  · have HF : Hid (∀ p ∈ l, ∀ f ∈ p.files, f.path ≠ S.data.toList) := hf
    clear hf cA
    go_wp2
    go_ret2
    exact ⟨hB2, .inr ⟨HF.out, rfl⟩⟩
end Go.Proofs.YtgnfknjopafngaaGreatDoor
namespace Go.Proofs.YtgnfknjopafngaaGreatDoor
open Go
theorem d_binade : Ieee.double.binade = 4503599627370496 := rfl
theorem d_inf : Ieee.double.infRung = 9218868437227405312 := rfl
theorem d_least : Ieee.double.leastPlace = -1074 := rfl
theorem d_frac : Ieee.double.fractionBits = 52 := rfl
theorem cut_zero (neg : Bool) (n : Nat) : Ieee.Toward.even.cut neg n 0 = n := by
  unfold Ieee.Toward.cut
  simp only [Nat.zero_min, Nat.shiftLeft_zero, Nat.div_one, Nat.mod_one]
  simp
theorem log_of {n k : Nat} (h1 : 2 ^ k ≤ n) (h2 : n < 2 ^ (k + 1)) : n.log2 = k := (Nat.log2_eq_iff (by have := Nat.two_pow_pos k; omega)).2 ⟨h1, h2⟩
theorem log_bounds {n : Nat} (h : 0 < n) : 2 ^ n.log2 ≤ n ∧ n < 2 ^ (n.log2 + 1) := (Nat.log2_eq_iff (by omega)).1 rfl
theorem shl (n k : Nat) : n <<< k = n * 2 ^ k := Nat.shiftLeft_eq n k
theorem fl_read (w : Nat) (h : w < 9223372036854775808) : Ieee.double.read w = if w < 4503599627370496 then .number false w (-1074) else if w < 9218868437227405312 then .number false (4503599627370496 + w % 4503599627370496) (-1074 + ((w / 4503599627370496 - 1 : Nat) : Int)) else if w = 9218868437227405312 then .infinity false else .nan false (w - 9218868437227405312) := by
  show (if w % 9223372036854775808 < 4503599627370496 then Ieee.Datum.number (w / 9223372036854775808 % 2 == 1) (w % 9223372036854775808) (-1074) else if w % 9223372036854775808 < 9218868437227405312 then .number (w / 9223372036854775808 % 2 == 1) (4503599627370496 + w % 9223372036854775808 % 4503599627370496) (-1074 + ((w % 9223372036854775808 / 4503599627370496 - 1 : Nat) : Int)) else if w % 9223372036854775808 = 9218868437227405312 then .infinity (w / 9223372036854775808 % 2 == 1) else .nan (w / 9223372036854775808 % 2 == 1) (w % 9223372036854775808 - 9218868437227405312)) = _
  rw [Nat.mod_eq_of_lt h, Nat.div_eq_of_lt h]
  rfl
def sig (n : Nat) : Nat := n * 2 ^ (52 - n.log2)
theorem sig_bounds {n : Nat} (h : 0 < n) (hl : n.log2 ≤ 52) : 4503599627370496 ≤ sig n ∧ sig n < 9007199254740992 := by
  obtain ⟨h1, h2⟩ := log_bounds h
  unfold sig
  have e1 : 2 ^ n.log2 * 2 ^ (52 - n.log2) = 4503599627370496 := by
    rw [← Nat.pow_add, show n.log2 + (52 - n.log2) = 52 by omega]
  have e2 : 2 ^ (n.log2 + 1) * 2 ^ (52 - n.log2) = 9007199254740992 := by
    rw [← Nat.pow_add, show n.log2 + 1 + (52 - n.log2) = 53 by omega]
  have hp := Nat.two_pow_pos (52 - n.log2)
  exact ⟨by rw [← e1]; exact Nat.mul_le_mul_right _ h1, by rw [← e2]; exact Nat.mul_lt_mul_of_pos_right h2 hp⟩
theorem near_small {n : Nat} (h : 0 < n) (hl : n.log2 ≤ 52) : Ieee.double.nearest false n 0 = (n.log2 + 1022) * 4503599627370496 + sig n := by
  obtain ⟨h1, h2⟩ := sig_bounds h hl
  unfold Ieee.Format.nearest
  rw [if_neg (by omega)]
  simp only [d_frac, d_least, d_binade, d_inf]
  have e : max ((0 : Int) + n.log2 - (52 : Nat)) (-1074) = (n.log2 : Int) - 52 := by omega
  rw [e, show ((0 : Int) - ((n.log2 : Int) - 52)).toNat = 52 - n.log2 by omega, show ((n.log2 : Int) - 52 - 0).toNat = 0 by omega, cut_zero, shl, show ((n.log2 : Int) - 52 - -1074).toNat = n.log2 + 1022 by omega]
  unfold Ieee.Format.word
  simp only [Bool.false_eq_true, if_false]
  show min ((n.log2 + 1022) * 4503599627370496 + sig n) _ = _
  omega
theorem fl_small {n : Nat} (h : 0 < n) (hl : n.log2 ≤ 52) : Ieee.double.read (Ieee.double.nearest false n 0) = .number false (sig n) ((n.log2 : Int) - 52) := by
  obtain ⟨h1, h2⟩ := sig_bounds h hl
  rw [near_small h hl]
  rw [fl_read _ (by omega), if_neg (by omega), if_pos (by omega)]
  have e3 : ((n.log2 + 1022) * 4503599627370496 + sig n) % 4503599627370496 = sig n - 4503599627370496 := by omega
  have e4 : ((n.log2 + 1022) * 4503599627370496 + sig n) / 4503599627370496 = n.log2 + 1023 := by omega
  rw [e3, e4, show 4503599627370496 + (sig n - 4503599627370496) = sig n by omega, show (-1074 + ((n.log2 + 1023 - 1 : Nat) : Int)) = (n.log2 : Int) - 52 by omega]
theorem near_nan (m : Nat) (p : Int) : (Ieee.double.read (Ieee.double.nearest false m p)).isNaN = false := by
  obtain ⟨r, hr, e⟩ : ∃ r, r ≤ 9218868437227405312 ∧ Ieee.double.nearest false m p = r := by
    unfold Ieee.Format.nearest
    split
    · exact ⟨_, by unfold Ieee.Format.word; simp, rfl⟩
    · refine ⟨_, ?_, rfl⟩
      unfold Ieee.Format.word
      simp only [Bool.false_eq_true, if_false, d_inf]
      exact Nat.min_le_right _ _
  rw [e]
  rw [fl_read _ (by omega)]
  split
  · rfl
  · split
    · rfl
    · rw [if_pos (by omega)]
      rfl
theorem order_self {w : Nat} (h : (Ieee.double.read w).isNaN = false) : Ieee.double.order w w = some .eq := by
  unfold Ieee.Format.order
  cases hd : Ieee.double.read w with
  | nan s f => rw [hd] at h; cases h
  | infinity s => simp [Ieee.Datum.order]
  | number s m i => simp [Ieee.Datum.order]
theorem order_one {w : Nat} (h : w ≤ 4607182418800017408) : Ieee.double.order w 4607182418800017408 ≠ some .gt ∧ Ieee.double.order w 0 ≠ some .lt := by
  have r1 : Ieee.double.read 4607182418800017408 = .number false 4503599627370496 (-52) := rfl
  have r0 : Ieee.double.read 0 = .number false 0 (-1074) := rfl
  unfold Ieee.Format.order
  rw [r1, r0]
  rw [fl_read w (by omega)]
  have key : ∀ (m : Nat) (i : Int), i ≤ -52 → -1074 ≤ i → (m < 9007199254740992 ∧ i < -52 ∨ m ≤ 4503599627370496) → Ieee.Datum.order (.number false m i) (.number false 4503599627370496 (-52)) ≠ some .gt ∧ Ieee.Datum.order (.number false m i) (.number false 0 (-1074)) ≠ some .lt := by
    intro m i h1 h2 h3
    have hb : min i (-52) = i := by omega
    have hb2 : min i (-1074) = -1074 := by omega
    constructor
    · unfold Ieee.Datum.order
      simp only [hb]
      unfold Ieee.signed
      simp only [Bool.false_eq_true, if_false, shl, show (i - i).toNat = 0 by omega, Nat.pow_zero, Nat.mul_one]
      intro hc
      have hc := Option.some.inj hc
      rw [Int.compare_eq_gt] at hc
      have hp := Nat.two_pow_pos (-52 - i).toNat
      have h4 : m ≤ 4503599627370496 * 2 ^ (-52 - i).toNat := by
        rcases h3 with ⟨h3, h5⟩ | h3
        · have : 2 ^ 1 ≤ 2 ^ (-52 - i).toNat := Nat.pow_le_pow_right (by omega) (by omega)
          omega
        · exact Nat.le_trans h3 (Nat.le_mul_of_pos_right _ hp)
      omega
    · unfold Ieee.Datum.order
      simp only [hb2]
      unfold Ieee.signed
      simp only [Bool.false_eq_true, if_false, shl, Nat.zero_mul]
      intro hc
      have hc := Option.some.inj hc
      rw [Int.compare_eq_lt] at hc
      omega
  by_cases h1 : w < 4503599627370496
  · rw [if_pos h1]
    exact key _ _ (by omega) (by omega) (.inr (by omega))
  · rw [if_neg h1, if_pos (by omega)]
    refine key _ _ (by omega) (by omega) ?_
    by_cases h2 : w = 4607182418800017408
    · subst h2
      exact .inr (by decide)
    · exact .inl ⟨by omega, by omega⟩
theorem near_one {Q : Nat} {pl : Int} (h0 : 0 < Q) (h1 : 52 < Q.log2) (hp : -1000 ≤ pl) (h2 : pl + Q.log2 ≤ -1) : Ieee.double.nearest false Q pl ≤ 4607182418800017408 := by
  obtain ⟨b1, b2⟩ := log_bounds h0
  unfold Ieee.Format.nearest
  rw [if_neg (by omega)]
  simp only [d_frac, d_least, d_binade, d_inf]
  generalize hl : Q.log2 = l at *
  have e : max (pl + (l : Int) - (52 : Nat)) (-1074) = pl + l - 52 := by omega
  rw [e, show (pl - (pl + (l : Int) - 52)).toNat = 0 by omega, show (pl + (l : Int) - 52 - pl).toNat = l - 52 by omega, shl, Nat.pow_zero, Nat.mul_one]
  unfold Ieee.Format.word
  simp only [Bool.false_eq_true, if_false]
  have hc : Ieee.Toward.even.cut false Q (l - 52) ≤ 9007199254740992 := by
    unfold Ieee.Toward.cut
    simp only [hl, shl, Nat.one_mul]
    rw [show min (l - 52) (l + 2) = l - 52 by omega]
    have hlow : Q / 2 ^ (l - 52) < 9007199254740992 := by
      rw [Nat.div_lt_iff_lt_mul (Nat.two_pow_pos _)]
      have e2 : 9007199254740992 * 2 ^ (l - 52) = 2 ^ (l + 1) := by
        rw [show (9007199254740992 : Nat) = 2 ^ 53 from rfl, ← Nat.pow_add, show 53 + (l - 52) = l + 1 by omega]
      omega
    have : ∀ b : Bool, b.toNat ≤ 1 := fun b => by cases b <;> decide
    exact Nat.le_trans (Nat.add_le_add_left (this _) _) hlow
  generalize Ieee.Toward.even.cut false Q (l - 52) = c at hc
  have h3 : (pl + (l : Int) - 52 - -1074).toNat ≤ 1021 := by omega
  generalize (pl + (l : Int) - 52 - -1074).toNat = z at h3
  have hm := Nat.min_le_left (z * 4503599627370496 + c) 9218868437227405312
  omega
theorem float_nat (n : Nat) : floatOfInt .f64 (n : Int) = Ieee.double.nearest false n 0 := by
  show Ieee.double.nearest (decide ((n : Int) < 0)) (n : Int).natAbs 0 = _
  rw [show decide ((n : Int) < 0) = false by simp, Int.natAbs_natCast]
theorem fill_bits (n r : Nat) (hr : 0 < r) (hr2 : r < 1048576) (hn : n < 1048576) :
    ∃ q, floatBits .quo .f64 (floatOfInt .f64 (n : Int)) (floatOfInt .f64 (r : Int)) = some q ∧ Ieee.double.order q q = some .eq ∧ (n ≤ r → Ieee.double.order q 4607182418800017408 ≠ some .gt ∧ Ieee.double.order q 0 ≠ some .lt) := by
  have hlog : ∀ m, 0 < m → m < 1048576 → m.log2 ≤ 19 := fun m h1 h2 => by
    rcases Nat.lt_or_ge m.log2 20 with h | h
    · omega
    · have h3 := (log_bounds h1).1
      have : 2 ^ 20 ≤ 2 ^ m.log2 := Nat.pow_le_pow_right (by omega) h
      omega
  have hlr := hlog r hr hr2
  rw [float_nat, float_nat]
  show ∃ q, ((Ieee.double.read _).quotient (Ieee.double.fractionBits + 2) (Ieee.double.read _)).map Ieee.double.write = some q ∧ _
  rw [fl_small hr (by omega), d_frac]
  obtain ⟨k1, k2⟩ := sig_bounds hr (by omega)
  by_cases h0 : n = 0
  · subst h0
    have e0 : Ieee.double.read (Ieee.double.nearest false 0 0) = .number false 0 (-1074) := rfl
    rw [e0]
    unfold Ieee.Datum.quotient
    simp only
    rw [if_neg (by omega)]
    simp only [shl, Nat.zero_mul, Nat.zero_div, Nat.zero_mod, Nat.mul_zero, bne_self_eq_false, Bool.toNat_false, Option.map_some]
    refine ⟨_, rfl, order_self (near_nan _ _), fun _ => order_one ?_⟩
    show Ieee.double.nearest false 0 _ ≤ _
    unfold Ieee.Format.nearest
    rw [if_pos rfl]
    decide
  · have hn0 : 0 < n := by omega
    have hln := hlog n hn0 hn
    rw [fl_small hn0 (by omega)]
    obtain ⟨j1, j2⟩ := sig_bounds hn0 (by omega)
    unfold Ieee.Datum.quotient
    simp only
    rw [if_neg (by omega)]
    rw [log_of (n := sig r) (k := 52) k1 k2, log_of (n := sig n) (k := 52) j1 j2]
    simp only [shl, Option.map_some, Bool.xor_false]
    refine ⟨_, rfl, order_self (near_nan _ _), fun hle => order_one ?_⟩
    show Ieee.double.nearest false _ _ ≤ _
    generalize hK : sig n = K at *
    generalize hK' : sig r = K' at *
    rw [show 52 + 2 + 52 - 52 = 54 from rfl]
    have hq1 : 9007199254740992 ≤ K * 2 ^ 54 / K' := by
      rw [Nat.le_div_iff_mul_le (by omega)]
      omega
    have hq2 : K * 2 ^ 54 / K' < 2 ^ 55 := by
      rw [Nat.div_lt_iff_lt_mul (by omega)]
      omega
    have hb : ∀ b : Bool, b.toNat ≤ 1 := fun b => by cases b <;> decide
    have hb1 := hb (K * 2 ^ 54 % K' != 0)
    by_cases hlt : n.log2 < r.log2
    · have hlQ : ∀ Q, 18014398509481984 ≤ Q → Q < 2 ^ 56 → 54 ≤ Q.log2 ∧ Q.log2 ≤ 55 := fun Q h1 h2 => by
        have hb := log_bounds (n := Q) (by omega)
        constructor
        · rcases Nat.lt_or_ge Q.log2 54 with h | h
          · have : 2 ^ (Q.log2 + 1) ≤ 2 ^ 54 := Nat.pow_le_pow_right (by omega) (by omega)
            omega
          · exact h
        · rcases Nat.lt_or_ge Q.log2 56 with h | h
          · omega
          · have : 2 ^ 56 ≤ 2 ^ Q.log2 := Nat.pow_le_pow_right (by omega) h
            omega
      obtain ⟨l1, l2⟩ := hlQ (2 * (K * 2 ^ 54 / K') + (K * 2 ^ 54 % K' != 0).toNat) (by omega) (by omega)
      exact near_one (by omega) (by omega) (by omega) (by omega)
    · have hlog2 : n.log2 = r.log2 := by
        have h1 := (log_bounds hn0).1
        have h2 := (log_bounds hr).2
        rcases Nat.lt_or_ge r.log2 n.log2 with h | h
        · have : 2 ^ (r.log2 + 1) ≤ 2 ^ n.log2 := Nat.pow_le_pow_right (by omega) h
          omega
        · omega
      have hKK : K ≤ K' := by
        rw [← hK, ← hK']
        unfold sig
        rw [hlog2]
        exact Nat.mul_le_mul_right _ hle
      have hpl : (n.log2 : Int) - 52 - ((r.log2 : Int) - 52) - (54 : Nat) - 1 = -55 := by omega
      rw [hpl]
      by_cases hK2 : K = K'
      · subst hK2
        rw [Nat.mul_div_cancel_left _ (by omega), Nat.mul_mod_right]
        decide
      · have hq3 : K * 2 ^ 54 / K' < 2 ^ 54 := by
          rw [Nat.div_lt_iff_lt_mul (by omega)]
          omega
        have hl : (2 * (K * 2 ^ 54 / K') + (K * 2 ^ 54 % K' != 0).toNat).log2 = 54 := log_of (by omega) (by omega)
        exact near_one (by omega) (by omega) (by omega) (by omega)
end Go.Proofs.YtgnfknjopafngaaGreatDoor
namespace Go.Proofs.YtgnfknjopafngaaGreatDoor
open Go.RowKit Go.Maps
set_option maxRecDepth 100000 in
set_option maxHeartbeats 4000000 in
theorem sFill_any (s k b d half n : Nat) (l : List M.Pk) (w : World) (hs : StoreAt w s k b) (hk : KnownAt w k d half) (hd : SecsOf w d n) (h1 : 16 ≤ n) (h2 : n ≤ 256) (hl : SetIn w b l) (hr : ∀ p ∈ l, ReadP p) (hz : M.sizeS l ≤ 1000000) :
    Calls Tryz.prog 51 #[.pointer (some ⟨s, 0, none⟩)] w fun e w' => ∃ q, floatBits .quo .f64 (floatOfInt .f64 (M.sizeS l : Int)) (floatOfInt .f64 (24 * ((n : Int) - 8))) = some q ∧ e = .returned (.float .f64 q) ∧ Below w.heap.size w w' := by
  obtain ⟨q, hq, -⟩ := fill_bits (M.sizeS l) (24 * (n - 8)) (by omega) (by omega) (by omega)
  rw [show ((24 * (n - 8) : Nat) : Int) = 24 * ((n : Int) - 8) by omega] at hq
  have hsl : s < w.heap.size := (Array.getElem?_eq_some_iff.1 hs).1
  have q0 : w.cell? ⟨s, 0, none⟩ = some (.pointer (some ⟨k, 0, none⟩)) := (cell_of_row w _ 0 _ _ (0, 0) hs).trans rfl
  have q1 : w.cell? ⟨s, 1, none⟩ = some (.map (some b)) := (cell_of_row w _ 1 _ _ (0, 0) hs).trans rfl
  have cS := fun wx (hb : Below w.heap.size w wx) => qsize_any b l wx (hl.below hb) hr (by omega)
  have cR := fun wx (hb : Below w.heap.size w wx) => kRoom_any k d half n wx (KnownAt.below hk hb) (hd.below hb) h1 h2
  have HQ : Hid (floatBits .quo .f64 (floatOfInt .f64 (M.sizeS l : Int)) (floatOfInt .f64 (24 * ((n : Int) - 8))) = some q) := hq
  have hB0 : Below w.heap.size w w.drew := (Below.refl _ w).drew
  generalize M.sizeS l = Z at cS HQ hq hz ⊢
  generalize (24 * ((n : Int) - 8)) = R at cR HQ hq ⊢
  have hdv := fun wx => run_float_arith (P := Tryz.prog) wx .quo 56 .f64 _ _ q hq
  clear hs hk hd hl hr hq
  go_enter Tryz.func51, Tryz.ntmps51
  go_wp2
  go_region_with (first
    | (go_at_call 80; refine (cS _ hB0).mono ?_; rintro e w2 ⟨rfl, hB2⟩; have hB3 : Below w.heap.size w w2 := bt hB0 hB2; have q2 : w2.cell? ⟨s, 0, none⟩ = some (.pointer (some ⟨k, 0, none⟩)) := (hB3.cell (p := ⟨s, 0, none⟩) hsl).trans q0)
    | (go_at_call 74; refine (cR _ (by assumption)).mono ?_; rintro e w3 ⟨rfl, rfl⟩))
  all_goals
    go_wp2
    go_ret
    exact ⟨q, HQ.out, rfl, by assumption⟩
end Go.Proofs.YtgnfknjopafngaaGreatDoor
namespace Go.Proofs.YtgnfknjopafngaaGreatDoor
open Go.RowKit Go.Maps
set_option maxRecDepth 100000 in
set_option maxHeartbeats 1000000 in
theorem xFill_any (x s k b d half n : Nat) (l : List M.Pk) (w : World) (hx : SessAt w x d (.pointer (some ⟨s, 0, none⟩))) (hs : StoreAt w s k b) (hk : KnownAt w k d half) (hd : SecsOf w d n) (h1 : 16 ≤ n) (h2 : n ≤ 256) (hl : SetIn w b l) (hr : ∀ p ∈ l, ReadP p) (hz : M.sizeS l ≤ 1000000) :
    Calls Tryz.prog 27 #[.pointer (some ⟨x, 0, none⟩)] w fun e w' => ∃ q, floatBits .quo .f64 (floatOfInt .f64 (M.sizeS l : Int)) (floatOfInt .f64 (24 * ((n : Int) - 8))) = some q ∧ e = .returned (.float .f64 q) ∧ Below w.heap.size w w' := by
  have cA := sFill_any s k b d half n l w hs hk hd h1 h2 hl hr hz
  have q1 : w.cell? ⟨x, 1, none⟩ = some (.pointer (some ⟨s, 0, none⟩)) := (cell_of_row w _ 1 _ _ (0, 0) hx).trans rfl
  generalize M.sizeS l = Z at cA hz ⊢
  generalize (24 * ((n : Int) - 8)) = R at cA ⊢
  clear hx hs hk hd hl hr
  go_enter Tryz.func27, Tryz.ntmps27
  go_wp2_with fail
  refine cA.mono ?_
  rintro e w2 ⟨q, hq, rfl, hB2⟩
  have HQ : Hid (floatBits .quo .f64 (floatOfInt .f64 (Z : Int)) (floatOfInt .f64 R) = some q) := hq
  clear hq cA
  go_wp2
  go_ret
  exact ⟨q, HQ.out, rfl, hB2⟩
set_option maxRecDepth 100000 in
set_option maxHeartbeats 1000000 in
theorem change_refused (s fb : Nat) (m : Value) (w : World) :
    Calls Tryz.prog 75 #[.pointer (some ⟨s, 0, none⟩), m, .iface 112 (.pointer (some ⟨fb, 0, none⟩))] w fun e w' => e = .returned (.iface 112 (.pointer (some ⟨fb, 0, none⟩))) ∧ w' = w := by
  go_enter Tryz.func75, Tryz.ntmps75
  go_wp2
  go_ret
  exact ⟨rfl, rfl⟩
end Go.Proofs.YtgnfknjopafngaaGreatDoor
namespace Go.Proofs.YtgnfknjopafngaaGreatDoor
open Go.RowKit Go.Maps
def ChangedPost (R : Sum M.Fa (List M.Pk)) (Post : List M.Pk → Ending → World → Prop) (w : World) (e : Ending) (w' : World) : Prop := match R with
  | .inl f => Below w.heap.size w w' ∧ ∃ ev, e = .returned ev ∧ ErrIs f w' ev
  | .inr all => Post all e w'
set_option maxRecDepth 100000 in
set_option maxHeartbeats 4000000 in
theorem sRemove_any (s k b : Nat) (there : List M.Pk) (xv : Value) (names : List ByteArray) (Post : List M.Pk → Ending → World → Prop) (w : World) (hs : StoreAt w s k b) (hl : SetIn w b there) (hx : TxtsIn w xv names) (hxn : names.length ≤ 10000) (hxs : ∀ t ∈ names, t.size ≤ 8192) (htn : there.length ≤ 20000) (hts : ∀ p ∈ there, ReadP p)
    (hP : ∀ all nb wx, M.removedS there (names.map fun t => t.data.toList) = .inr all → Below w.heap.size w wx → SetIn wx nb all → Calls Tryz.prog 75 #[.pointer (some ⟨s, 0, none⟩), .map (some nb), .nilIface] wx fun e w' => (∃ v, e = .returned v) ∧ Post all e w') :
    Calls Tryz.prog 49 #[.pointer (some ⟨s, 0, none⟩), xv] w (ChangedPost (M.removedS there (names.map fun t => t.data.toList)) Post w) := by
  have cA := remove_any b there xv names w hl hx hxn hxs htn hts
  obtain ⟨ax, cx, ex⟩ := hx.form
  subst ex
  have q1 : w.cell? ⟨s, 1, none⟩ = some (.map (some b)) := (cell_of_row w _ 1 _ _ (0, 0) hs).trans rfl
  have HP : Hid (∀ all nb wx, M.removedS there (names.map fun t => t.data.toList) = .inr all → Below w.heap.size w wx → SetIn wx nb all → Calls Tryz.prog 75 #[.pointer (some ⟨s, 0, none⟩), .map (some nb), .nilIface] wx fun e w' => (∃ v, e = .returned v) ∧ Post all e w') := hP
  generalize M.removedS there (names.map fun t => t.data.toList) = R at cA HP ⊢
  clear hs hl hx hxs hts hP
  go_enter Tryz.func49, Tryz.ntmps49
  go_wp2_with fail
  refine cA.mono ?_
  rintro e w2 ⟨hB2, hm⟩
  clear cA
  cases R with
  | inl f =>
    obtain ⟨ev, rfl, fb, rfl, hF⟩ := hm
    have HF : Hid (ErrIs f w2 (.iface 112 (.pointer (some ⟨fb, 0, none⟩)))) := ⟨fb, rfl, hF⟩
    have cC := change_refused s fb (.map none) w2
    clear hF
    go_wp2_with fail
    refine cC.mono ?_
    rintro e w3 ⟨rfl, hw3⟩
    clear cC
    go_wp2
    go_ret
    exact ⟨hB2, _, rfl, HF.out⟩
  | inr all =>
    obtain ⟨nb, rfl, hS⟩ := hm
    have cC := HP.out all nb w2 rfl hB2 hS
    clear hS
    go_wp2_with fail
    refine cC.mono ?_
    rintro e w3 ⟨⟨v, rfl⟩, hp⟩
    have HQ : Hid (Post all (.returned v) w3) := hp
    clear cC hp
    go_wp2
    go_ret
    exact HQ.out
set_option maxRecDepth 100000 in
set_option maxHeartbeats 4000000 in
theorem sInstall_any (s k b d half n : Nat) (there : List M.Pk) (xv : Value) (texts : List ByteArray) (Post : List M.Pk → Ending → World → Prop) (w : World) (hR : Ready w) (hs : StoreAt w s k b) (hk : KnownAt w k d half) (hd : SecsOf w d n) (h1 : 16 ≤ n) (h2 : n ≤ 256) (hl : SetIn w b there) (hx : TxtsIn w xv texts) (hxn : texts.length ≤ 10000) (hxs : ∀ t ∈ texts, t.size ≤ 8192) (htn : there.length ≤ 20000) (hts : ∀ p ∈ there, ReadP p)
    (hP : ∀ all nb wx, M.installedS there (texts.map fun t => t.data.toList) (24 * ((n : Int) - 8)) = .inr all → Below w.heap.size w wx → SetIn wx nb all → Calls Tryz.prog 75 #[.pointer (some ⟨s, 0, none⟩), .map (some nb), .nilIface] wx fun e w' => (∃ v, e = .returned v) ∧ Post all e w') :
    Calls Tryz.prog 46 #[.pointer (some ⟨s, 0, none⟩), xv] w (ChangedPost (M.installedS there (texts.map fun t => t.data.toList) (24 * ((n : Int) - 8))) Post w) := by
  have hB0 : Below w.heap.size w w.drew := (Below.refl _ w).drew
  have cA := install_any b (24 * (n - 8)) there xv texts w.drew (hR.below hB0) (hl.below hB0) (hx.below hB0) hxn hxs htn hts
  have cR := kRoom_any k d half n w.drew (KnownAt.below hk hB0) (hd.below hB0) h1 h2
  rw [show ((24 * (n - 8) : Nat) : Int) = 24 * ((n : Int) - 8) by omega] at cA
  obtain ⟨ax, cx, ex⟩ := hx.form
  subst ex
  have q0 : w.cell? ⟨s, 0, none⟩ = some (.pointer (some ⟨k, 0, none⟩)) := (cell_of_row w _ 0 _ _ (0, 0) hs).trans rfl
  have q1 : w.cell? ⟨s, 1, none⟩ = some (.map (some b)) := (cell_of_row w _ 1 _ _ (0, 0) hs).trans rfl
  generalize 24 * ((n : Int) - 8) = Z at cA cR hP ⊢
  have HP : Hid (∀ all nb wx, M.installedS there (texts.map fun t => t.data.toList) Z = .inr all → Below w.heap.size w wx → SetIn wx nb all → Calls Tryz.prog 75 #[.pointer (some ⟨s, 0, none⟩), .map (some nb), .nilIface] wx fun e w' => (∃ v, e = .returned v) ∧ Post all e w') := hP
  generalize M.installedS there (texts.map fun t => t.data.toList) Z = R at cA HP ⊢
  clear hs hl hx hxs hts hP hk hd hR
  go_enter Tryz.func46, Tryz.ntmps46
  go_wp2
  cases R with
  | inl f =>
    go_region_with (first
      | (go_at_call 74; refine cR.mono ?_; rintro e w3 ⟨rfl, rfl⟩)
      | (go_at_call 73; refine cA.mono ?_; rintro e w2 ⟨hB2, ev, rfl, fb, rfl, hF⟩))
    all_goals
      have hB3 : Below w.heap.size w w2 := bt hB0 hB2
      have HF : Hid (ErrIs f w2 (.iface 112 (.pointer (some ⟨fb, 0, none⟩)))) := ⟨fb, rfl, hF⟩
      have cC := change_refused s fb (.map none) w2
      clear hF hB2
      go_wp2_with fail
      refine cC.mono ?_
      rintro e w3 ⟨rfl, hw3⟩
      clear cC
      go_wp2
      go_ret
      exact ⟨hB3, _, rfl, HF.out⟩
  | inr all =>
    go_region_with (first
      | (go_at_call 74; refine cR.mono ?_; rintro e w3 ⟨rfl, rfl⟩)
      | (go_at_call 73; refine cA.mono ?_; rintro e w2 ⟨hB2, nb, rfl, hS⟩))
    all_goals
      have cC := HP.out all nb w2 rfl (bt hB0 hB2) hS
      clear hS hB2
      go_wp2_with fail
      refine cC.mono ?_
      rintro e w3 ⟨⟨v, rfl⟩, hp⟩
      have HQ : Hid (Post all (.returned v) w3) := hp
      clear cC hp
      go_wp2
      go_ret
      exact HQ.out
end Go.Proofs.YtgnfknjopafngaaGreatDoor
namespace Go.Proofs.YtgnfknjopafngaaGreatDoor
open Go.RowKit Go.Maps
def TurnedPost (R : Sum M.Fa (List M.Pk)) (Post : List M.Pk → Ending → World → Prop) (w : World) (e : Ending) (w' : World) : Prop := match R with
  | .inl f => e = .returned (faV f) ∧ Below w.heap.size w w'
  | .inr all => e = .returned okV ∧ ∃ W, Post all (.returned .nilIface) W ∧ Chg (fun k => k = w.heap.size) W w'
set_option maxRecDepth 100000 in
set_option maxHeartbeats 4000000 in
theorem xRemove_any (x d s : Nat) (xv : Value) (a : Option Addr) (m c : Nat) (hxv : xv = .slice a m c) (R : Sum M.Fa (List M.Pk)) (Post : List M.Pk → Ending → World → Prop) (w : World) (hR : Ready w) (hx : SessAt w x d (.pointer (some ⟨s, 0, none⟩))) (hk : ∀ f, R = .inl f → 1 ≤ f.kind ∧ f.kind ≤ 8)
    (hS : ∀ A, A = w.alloc (.cells okC 23) → Calls Tryz.prog 49 #[.pointer (some ⟨s, 0, none⟩), xv] A (ChangedPost R Post A))
    (hP : ∀ all e W, Post all e W → e = .returned .nilIface ∧ W.heap[w.heap.size]? = some (.cells okC 23 (0, 0))) :
    Calls Tryz.prog 24 #[.pointer (some ⟨x, 0, none⟩), xv] w (TurnedPost R Post w) := by
  subst hxv
  have cS := hS _ rfl
  generalize hA : w.alloc (.cells okC 23) = A at cS
  have hB : Below w.heap.size w A := by rw [← hA]; exact (Below.refl _ w).alloc (Nat.le_refl _) _
  have hr : A.heap[w.heap.size]? = some (.cells okC 23 (0, 0)) := by rw [← hA]; exact heap_alloc_new w _
  have hAs : w.heap.size < A.heap.size := (Array.getElem?_eq_some_iff.1 hr).1
  have hxl : x < w.heap.size := (Array.getElem?_eq_some_iff.1 hx).1
  have q1 : A.cell? ⟨x, 1, none⟩ = some (.pointer (some ⟨s, 0, none⟩)) := (hB.cell (p := ⟨x, 1, none⟩) hxl).trans ((cell_of_row w _ 1 _ _ (0, 0) hx).trans rfl)
  have HRd : Hid (Ready A) := hR.below hB
  have HRr : Hid (A.heap[w.heap.size]? = some (.cells okC 23 (0, 0))) := hr
  have HP : Hid _ := hP
  clear hx hr hR hS hP
  go_enter Tryz.func24, Tryz.ntmps24
  go_wp2_with fail
  refine cS.mono ?_
  intro e w1 hm
  clear cS hA q1
  cases R with
  | inl f =>
    obtain ⟨hB1, ev, rfl, fb, rfl, hF⟩ := hm
    obtain ⟨f1, f2⟩ := hk f rfl
    have cP := parts_fault w1 fb f.kind f.which f.line ⟨f.name.toArray⟩ (HRd.out.below hB1).1 hF f1 f2
    clear hF
    go_wp2_with fail
    refine cP.mono ?_
    rintro e w2 ⟨rfl, hB2⟩
    have hB3 : Below A.heap.size A w2 := bt hB1 hB2
    have hr2 : w2.heap[w.heap.size]? = some (.cells okC 23 (0, 0)) := (hB3.block _ hAs).trans HRr.out
    obtain ⟨z0, z1, z2, z3, zf⟩ := okC_cell hr2
    have hB4 := bt hB hB3
    clear cP hr2 hB1 hB2 hB3
    go_wp2
    refine bodyPost_ret (v := faV f) (by simp [results, Tryz.results24, go_sem, faV, z0, z1, z2, z3]) rfl ⟨rfl, ?_⟩
    exact (((hB4.setCell (p := ⟨w.heap.size, 0, none⟩) (Nat.le_refl _) _).setCell (p := ⟨w.heap.size, 1, none⟩) (Nat.le_refl _) _).setCell (p := ⟨w.heap.size, 2, none⟩) (Nat.le_refl _) _).setCell (p := ⟨w.heap.size, 3, none⟩) (Nat.le_refl _) _
  | inr all =>
    obtain ⟨he, hr1⟩ := HP.out all e w1 hm
    subst he
    have HM : Hid (Post all (.returned .nilIface) w1) := hm
    have cP := parts_nil w1
    have hl1 : w.heap.size < w1.heap.size := (Array.getElem?_eq_some_iff.1 hr1).1
    clear hm
    go_wp2_with fail
    refine cP.mono ?_
    rintro e w2 ⟨rfl, hB2⟩
    have hr2 : w2.heap[w.heap.size]? = some (.cells okC 23 (0, 0)) := (hB2.block _ hl1).trans hr1
    obtain ⟨z0, z1, z2, z3, zf⟩ := okC_cell hr2
    have HB2 : Hid (Below w1.heap.size w1 w2) := hB2
    clear cP hr2 hB2 hr1
    go_wp2
    have G := grown4 w2 w.heap.size (.int .i64 0) (.int .i64 0) (.int .i64 0) (.string ⟨#[]⟩)
    refine bodyPost_ret (v := okV) (by simp [results, Tryz.results24, go_sem, z0, z1, z2, z3]) rfl ⟨rfl, w1, HM.out, ?_⟩
    exact (Chg.below HB2.out).then (Chg.grown G (fun k e _ => (Option.some.inj e).symm)) (fun _ _ e => e)
set_option maxRecDepth 100000 in
set_option maxHeartbeats 4000000 in
theorem xInstall_any (x d s : Nat) (xv : Value) (a : Option Addr) (m c : Nat) (hxv : xv = .slice a m c) (R : Sum M.Fa (List M.Pk)) (Post : List M.Pk → Ending → World → Prop) (w : World) (hR : Ready w) (hx : SessAt w x d (.pointer (some ⟨s, 0, none⟩))) (hk : ∀ f, R = .inl f → 1 ≤ f.kind ∧ f.kind ≤ 8)
    (hS : ∀ A, A = w.alloc (.cells okC 23) → Calls Tryz.prog 46 #[.pointer (some ⟨s, 0, none⟩), xv] A (ChangedPost R Post A))
    (hP : ∀ all e W, Post all e W → e = .returned .nilIface ∧ W.heap[w.heap.size]? = some (.cells okC 23 (0, 0))) :
    Calls Tryz.prog 21 #[.pointer (some ⟨x, 0, none⟩), xv] w (TurnedPost R Post w) := by
  subst hxv
  have cS := hS _ rfl
  generalize hA : w.alloc (.cells okC 23) = A at cS
  have hB : Below w.heap.size w A := by rw [← hA]; exact (Below.refl _ w).alloc (Nat.le_refl _) _
  have hr : A.heap[w.heap.size]? = some (.cells okC 23 (0, 0)) := by rw [← hA]; exact heap_alloc_new w _
  have hAs : w.heap.size < A.heap.size := (Array.getElem?_eq_some_iff.1 hr).1
  have hxl : x < w.heap.size := (Array.getElem?_eq_some_iff.1 hx).1
  have q1 : A.cell? ⟨x, 1, none⟩ = some (.pointer (some ⟨s, 0, none⟩)) := (hB.cell (p := ⟨x, 1, none⟩) hxl).trans ((cell_of_row w _ 1 _ _ (0, 0) hx).trans rfl)
  have HRd : Hid (Ready A) := hR.below hB
  have HRr : Hid (A.heap[w.heap.size]? = some (.cells okC 23 (0, 0))) := hr
  have HP : Hid _ := hP
  clear hx hr hR hS hP
  go_enter Tryz.func21, Tryz.ntmps21
  go_wp2_with fail
  refine cS.mono ?_
  intro e w1 hm
  clear cS hA q1
  cases R with
  | inl f =>
    obtain ⟨hB1, ev, rfl, fb, rfl, hF⟩ := hm
    obtain ⟨f1, f2⟩ := hk f rfl
    have cP := parts_fault w1 fb f.kind f.which f.line ⟨f.name.toArray⟩ (HRd.out.below hB1).1 hF f1 f2
    clear hF
    go_wp2_with fail
    refine cP.mono ?_
    rintro e w2 ⟨rfl, hB2⟩
    have hB3 : Below A.heap.size A w2 := bt hB1 hB2
    have hr2 : w2.heap[w.heap.size]? = some (.cells okC 23 (0, 0)) := (hB3.block _ hAs).trans HRr.out
    obtain ⟨z0, z1, z2, z3, zf⟩ := okC_cell hr2
    have hB4 := bt hB hB3
    clear cP hr2 hB1 hB2 hB3
    go_wp2
    refine bodyPost_ret (v := faV f) (by simp [results, Tryz.results21, go_sem, faV, z0, z1, z2, z3]) rfl ⟨rfl, ?_⟩
    exact (((hB4.setCell (p := ⟨w.heap.size, 0, none⟩) (Nat.le_refl _) _).setCell (p := ⟨w.heap.size, 1, none⟩) (Nat.le_refl _) _).setCell (p := ⟨w.heap.size, 2, none⟩) (Nat.le_refl _) _).setCell (p := ⟨w.heap.size, 3, none⟩) (Nat.le_refl _) _
  | inr all =>
    obtain ⟨he, hr1⟩ := HP.out all e w1 hm
    subst he
    have HM : Hid (Post all (.returned .nilIface) w1) := hm
    have cP := parts_nil w1
    have hl1 : w.heap.size < w1.heap.size := (Array.getElem?_eq_some_iff.1 hr1).1
    clear hm
    go_wp2_with fail
    refine cP.mono ?_
    rintro e w2 ⟨rfl, hB2⟩
    have hr2 : w2.heap[w.heap.size]? = some (.cells okC 23 (0, 0)) := (hB2.block _ hl1).trans hr1
    obtain ⟨z0, z1, z2, z3, zf⟩ := okC_cell hr2
    have HB2 : Hid (Below w1.heap.size w1 w2) := hB2
    clear cP hr2 hB2 hr1
    go_wp2
    have G := grown4 w2 w.heap.size (.int .i64 0) (.int .i64 0) (.int .i64 0) (.string ⟨#[]⟩)
    refine bodyPost_ret (v := okV) (by simp [results, Tryz.results21, go_sem, z0, z1, z2, z3]) rfl ⟨rfl, w1, HM.out, ?_⟩
    exact (Chg.below HB2.out).then (Chg.grown G (fun k e _ => (Option.some.inj e).symm)) (fun _ _ e => e)
end Go.Proofs.YtgnfknjopafngaaGreatDoor
namespace Go.Proofs.YtgnfknjopafngaaGreatDoor
open Go.RowKit Go.Maps
def TextsDo (nb : Nat) (all : List M.Pk) : Prop := ∀ wx, SetIn wx nb all → Calls Tryz.prog 119 #[.map (some nb)] wx fun e w' => ∃ a c, e = .returned (.slice a (M.textsS all).length c) ∧ w'.ownsRow wx.heap.size 9 1 (.slice a (M.textsS all).length c) (M.textsS all).length ((M.textsS all).map strV) ∧ Below wx.heap.size wx w'
set_option maxRecDepth 100000 in
set_option maxHeartbeats 4000000 in
theorem change_any (s k b nb d half n : Nat) (hv sv lv : Value) (D : M.Dk) (all : List M.Pk) (w : World) (hT : TextsDo nb all) (hs : StoreAt w s k b) (hk : KnownAt w k d half) (h : DiskIs w d hv sv lv D) (hsa : M.Sane n 0 D) (h1 : 16 ≤ n) (h2 : n ≤ 256) (ho : half ≤ 1) (hl : SetIn w nb all) (hn : all.length ≤ 1000) (hf : M.secN (M.packed all).length ≤ (n - 1) / 2) (hln : (M.packed all).length < 65536) (hsd : ¬ dFoot d hv sv lv s) :
    Calls Tryz.prog 75 #[.pointer (some ⟨s, 0, none⟩), .map (some nb), .nilIface] w fun e w' => e = .returned .nilIface ∧ ∃ W, Below w.heap.size w W ∧ ∃ W', StoreAt w' s k nb ∧ W'.grownBy w' (some s) ∧ KnownAt W' k d (1 - half) ∧ ∃ lv', DiskIs W' d hv sv lv' (D.save n (1 - half) (M.packed all)) ∧ Chg (fun b => b = k ∨ dFoot d hv sv lv b) W W' ∧ (∀ j, lv'.ownBlock = some j → lv.ownBlock = some j ∨ W.heap.size ≤ j) := by
  have hB0 : Below w.heap.size w w.drew := (Below.refl _ w).drew
  have hsl : s < w.heap.size := (Array.getElem?_eq_some_iff.1 hs).1
  have hskne : s ≠ k := fun e => by
    unfold StoreAt at hs
    unfold KnownAt at hk
    rw [e, hk] at hs
    cases hs
  have HSt : Hid (StoreAt w s k b) := hs
  have q0 : w.cell? ⟨s, 0, none⟩ = some (.pointer (some ⟨k, 0, none⟩)) := (cell_of_row w _ 0 _ _ (0, 0) hs).trans rfl
  have cT := hT w.drew (hl.below hB0)
  have HK : Hid (KnownAt w k d half) := hk
  have HD : Hid (DiskIs w d hv sv lv D) := h
  have cS := fun wx xv (hb : Below w.heap.size w wx) (hx : wx.ownsRow w.heap.size 9 1 xv (M.textsS all).length ((M.textsS all).map strV)) => kSave_any k d half n hv sv lv xv D (M.textsS all) w.heap.size wx (KnownAt.below hk hb) (h.below hb) hsa h1 h2 ho hx (by rw [M.texts_len]; exact hn) hf hln
  clear hs hk h hl hT
  go_enter Tryz.func75, Tryz.ntmps75
  go_wp2
  go_region_with (first
    | (go_at_call 119; refine cT.mono ?_; rintro e w2 ⟨ta, tc, rfl, hO, hB2⟩; have hB3 : Below w.heap.size w w2 := bt hB0 hB2; have q2 : w2.cell? ⟨s, 0, none⟩ = some (.pointer (some ⟨k, 0, none⟩)) := (hB3.cell (p := ⟨s, 0, none⟩) hsl).trans q0; have HO : Hid _ := hO; clear hO)
    | (go_at_call 118; refine (cS _ _ hB3 HO.out).mono ?_; rintro e w3 ⟨⟨v3, rfl⟩, hk3, lv', hd3, hc3, hn3⟩))
  all_goals
    have hst3 : w3.heap[s]? = some (.cells #[.pointer (some ⟨k, 0, none⟩), .map (some b)] 140 (0, 0)) := (hc3.block s (Nat.lt_of_lt_of_le hsl hB3.size) (fun e => e.elim hskne hsd)).trans ((hB3.block s hsl).trans HSt.out)
    have x1 : w3.cell? ⟨s, 1, none⟩ = some (.map (some b)) := (cell_of_row w3 _ 1 _ _ (0, 0) hst3).trans rfl
    have x2 : w3.frozen? ⟨s, 1, none⟩ = false := frozen_of_row w3 _ _ _ _ hst3
    have HE : Hid (KnownAt w3 k d (1 - half) ∧ DiskIs w3 d hv sv lv' (D.save n (1 - half) (M.packed all)) ∧ Chg (fun b => b = k ∨ dFoot d hv sv lv b) w2 w3 ∧ (∀ j, lv'.ownBlock = some j → lv.ownBlock = some j ∨ w2.heap.size ≤ j)) := ⟨hk3, hd3, hc3, hn3⟩
    have HSe : Hid (StoreAt (w3.setCell ⟨s, 1, none⟩ (.map (some nb))) s k nb) := heap_setCell_same w3 s 1 _ _ (.map (some nb)) hst3
    clear hk3 hd3 hc3 hn3 hst3
    go_wp2
    go_ret
    exact ⟨rfl, w2, hB3, w3, HSe.out, setCell_grown w3 s 1 _, HE.out.1, lv', HE.out.2.1, HE.out.2.2.1, HE.out.2.2.2⟩
end Go.Proofs.YtgnfknjopafngaaGreatDoor
